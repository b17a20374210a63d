/- The document's Sha. -/
import Derived.Test.YtmilcknboaefkaaGreatDoorDgR
set_option maxRecDepth 100000
namespace Go.Proofs.YtmilcknboaefkaaGreatDoor
open Go.RowKit

theorem Tryz.u44 : (Tryz.prog.underlying 89, (Tryz.prog.info? 89).map (·.size)) = (some (.array 8 88), some 8) := by kernel_rfl
theorem Tryz.z44 : (Tryz.prog.info? 89).map (fun i => (i.zero, i.size)) = some (some (.agg (ic .u32 (List.replicate 8 0)).toArray), 8) := by kernel_rfl

/-- What stands in memory between two blocks. -/
structure RfW (w : World) (g2 g3 g4 gP n5 c5 : Nat) (hs P : List Int) (wr : World) : Prop where
  o : Ar wr g2 27 .u8 (List.replicate 32 0)
  h : Ar wr g3 89 .u32 hs
  k : Ar wr g4 98 .u32 kws
  p : Rd wr (some ⟨gP, 0, none⟩) n5 c5 P
  b : Below w.heap.size w wr
theorem RfW.below {w : World} {g2 g3 g4 gP n5 c5 : Nat} {hs P : List Int} {wr w' : World} (h : RfW w g2 g3 g4 gP n5 c5 hs P wr) (hb : Below wr.heap.size wr w') : RfW w g2 g3 g4 gP n5 c5 hs P w' :=
  ⟨h.o.below hb h.o.lt, h.h.below hb h.h.lt, h.k.below hb h.k.lt, h.p.carry (Nat.le_refl _) hb, h.b.trans (hb.mono h.b.size)⟩
theorem RfW.keep {w : World} {g2 g3 g4 gP n5 c5 g : Nat} {hs P : List Int} {wr w' : World} (h : RfW w g2 g3 g4 gP n5 c5 hs P wr) (hk : Keep (fun j => j = g) wr w') (hn : ¬ g2 = g ∧ ¬ g3 = g ∧ ¬ g4 = g ∧ ¬ gP = g ∧ w.heap.size ≤ g) : RfW w g2 g3 g4 gP n5 c5 hs P w' :=
  ⟨h.o.keep hk hn.1, h.h.keep hk hn.2.1, h.k.keep hk hn.2.2.1, h.p.keep hk (fun ad e => by cases e; exact hn.2.2.2.1), h.b.trans (hk.below h.b.size (fun q hq => by omega))⟩
theorem RfW.drewN {w : World} {g2 g3 g4 gP n5 c5 : Nat} {hs P : List Int} {wr : World} (h : RfW w g2 g3 g4 gP n5 c5 hs P wr) (n : Nat) : RfW w g2 g3 g4 gP n5 c5 hs P (wr.drewN n) :=
  ⟨h.o, h.h, h.k, rd_drewN h.p n, ⟨h.b.os, h.b.tape, h.b.output, h.b.size, h.b.block⟩⟩
theorem RfW.seth {w : World} {g2 g3 g4 gP n5 c5 : Nat} {hs hs' P : List Int} {wr w' : World} (h : RfW w g2 g3 g4 gP n5 c5 hs P wr) (hk : Keep (fun j => j = g3) wr w') (hn : Ar w' g3 89 .u32 hs') (hd : ¬ g2 = gP ∧ ¬ g3 = gP ∧ ¬ g4 = gP ∧ ¬ g2 = g3 ∧ ¬ g3 = g4) (hw : w.heap.size ≤ g3) : RfW w g2 g3 g4 gP n5 c5 hs' P w' :=
  ⟨h.o.keep hk hd.2.2.2.1, hn, h.k.keep hk (fun e => hd.2.2.2.2 e.symm), h.p.keep hk (fun ad e => by cases e; exact fun e => hd.2.1 e.symm), h.b.trans (hk.below h.b.size (fun q hq => by omega))⟩
theorem list8' {l : List Int} (h : l.length = 8) : ∃ a b c d e f g i, l = [a, b, c, d, e, f, g, i] := by
  match l, h with
  | [a, b, c, d, e, f, g, i], _ => exact ⟨a, b, c, d, e, f, g, i, rfl⟩
theorem wu32 {x : Int} (h0 : 0 ≤ x) (h1 : x ≤ 4294967295) : IntKind.u32.wrap x = x := by rw [IntKind.wrap_u32']; omega
theorem keep_cell {w : World} {g i : Nat} {v : Value} : Keep (fun j => j = g) w (w.setCell ⟨g, i, none⟩ v) := Keep.setCell (S := fun j => j = g) (Keep.refl _ _) rfl v

set_option maxRecDepth 100000 in
set_option maxHeartbeats 12800000 in
theorem refSha_any (a : Option Addr) (n c : Nat) (xs : List Int) (w : World) (hR : Rd w a n c xs) (hn : n ≤ 1000000) :
    Calls Tryz.prog 30 #[.slice a n c] w fun e w' => e = .returned (.agg (ic .u8 (sha xs)).toArray) ∧ Below w.heap.size w w' := by
  have hi46 := (size_of Tryz.u46).2
  have hi44 := (size_of Tryz.u44).2
  have hb44 : Tryz.prog.built 89 (h0s.zipIdx.map fun x => (x.2, Value.int .u32 x.1)) = some (ic .u32 h0s).toArray := by kernel_rfl
  have HPL : Hid ((padT 0 xs).length = 64 * ((padT 0 xs).length / 64)) := by
    show _ = _
    rw [pad_len]; unfold zn; split <;> omega
  obtain ⟨P, HP⟩ : ∃ P, Hid (padT 0 xs = P) := ⟨_, rfl⟩
  rw [HP.out] at HPL
  have hPn : P.length ≤ 1000300 := by rw [← HP.out, pad_len]; unfold zn; have := hR.len; split <;> omega
  have hP0 : 0 < P.length := by rw [← HP.out, pad_len]; omega
  have t1 : True := trivial
  go_enter Tryz.func30, Tryz.ntmps30
  go_wp2_with (first
    | (clear t1; refine wp_alloc_ar rfl 27 rfl .u8 (List.replicate 32 0) 32 Tryz.z23 ?_; intro g2 w1 A2 hg2 hb1)
    | (refine wp_buildc rfl 89 _ rfl _ rfl .u32 h0s hb44 ?_)
    | (refine wp_alloc_ar rfl 89 rfl .u32 (List.replicate 8 0) 8 Tryz.z44 ?_; intro g3 w2 A3 hg3 hb2)
    | (refine wp_store_ar rfl 89 (.tmp 3) (.tmp 22) rfl g3 rfl .u32 h0s rfl 89 _ A3 rfl hi44 ?_; intro w3 A3' hk3 hs3; clear hs3)
    | (go_at_call 55; refine (shaK_any _).mono ?_; rintro e w4 ⟨rfl, hb4⟩)
    | (refine wp_alloc_ar rfl 98 rfl .u32 (List.replicate 64 0) 64 Tryz.z46 ?_; intro g4 w5 A4 hg4 hb5)
    | (refine wp_store_ar rfl 98 (.tmp 4) (.tmp 23) rfl g4 rfl .u32 kws rfl 98 _ A4 rfl hi46 ?_; intro w6 A4' hk6 hs6; clear hs6)
    | (go_at_call 56; have e2 := hb1.trans (hb2.mono hb1.size); have e3 : Below w.heap.size w w3 := e2.trans (hk3.below e2.size (fun q hq => by have := hb1.size; omega)); have e4 := e3.trans (hb4.mono e3.size); have e5 := e4.trans (hb5.mono e4.size); have e6 : Below w.heap.size w w6 := e5.trans (hk6.below e5.size (fun q hq => by have := e4.size; omega)); refine (pad_any a n c xs _ (hR.carry (Nat.le_refl _) e6) hn).mono ?_; rw [HP.out]; rintro e w7 ⟨v7, rfl, hN7, hb7⟩; obtain ⟨a5, c5, rfl, hr7⟩ := hN7.rd; obtain ⟨gP, rfl, hgP, _⟩ := hN7.flat hP0))
  have s1 := hb1.size
  have s2 := hb2.size
  have s3 := hk3.size
  have s4 := hb4.size
  have s5 := hb5.size
  have s6 := hk6.size
  have l2 := A2.lt
  have l3 := A3'.lt
  have l4 := A4'.lt
  have k3 := A3.lt
  have n23 : ¬ g2 = g3 := by omega
  have n24 : ¬ g2 = g4 := by omega
  have n34 : ¬ g3 = g4 := by omega
  have HM : RfW w g2 g3 g4 gP P.length c5 h0s P w7 := by
    have B2 : Ar w6 g2 27 .u8 (List.replicate 32 0) := ((((A2.below hb2 l2).keep hk3 n23).below hb4 (by omega)).below hb5 (by omega)).keep hk6 n24
    have B3 : Ar w6 g3 89 .u32 h0s := ((A3'.below hb4 l3).below hb5 (by omega)).keep hk6 n34
    exact ⟨B2.below hb7 B2.lt, B3.below hb7 B3.lt, A4'.below hb7 l4, hr7, e6.trans (hb7.mono e6.size)⟩
  have HN : Hid (¬ g2 = gP ∧ ¬ g3 = gP ∧ ¬ g4 = gP ∧ ¬ g2 = g3 ∧ ¬ g3 = g4) := ⟨by omega, by omega, by omega, n23, n34⟩
  have hG3 : w.heap.size ≤ g3 := by omega
  have hG2 : w.heap.size ≤ g2 := by omega
  have hGs : g2 < w7.heap.size ∧ g3 < w7.heap.size ∧ g4 < w7.heap.size ∧ gP < w7.heap.size := ⟨HM.o.lt, HM.h.lt, HM.k.lt, HM.p.blk hP0 rfl⟩
  have hW7 : w.heap.size ≤ w7.heap.size := HM.b.size
  obtain ⟨n5, HN5⟩ : ∃ n5, Hid (P.length = n5) := ⟨_, rfl⟩
  obtain ⟨N, HNN⟩ : ∃ N, Hid (P.length / 64 = N) := ⟨_, rfl⟩
  rw [HNN.out, HN5.out] at HPL
  rw [HN5.out] at HM hPn ⊢
  clear s1 s2 s3 s4 s5 s6 l2 l3 l4 k3 n23 n24 n34 hN7 hr7 hb7 e2 e3 e4 e5 e6 hk6 A4' A4 hb5 hb4 hk3 A3' A3 hb2 hb1 A2 hg2 hg3 hg4 hgP hR hb44 hP0
  go_loopw [6] (fun at_ wr => ∃ q : Nat, q ≤ N ∧ at_ = .int .i64 ((64 * q : Nat) : Int) ∧ RfW w g2 g3 g4 gP n5 c5 (runB P h0s q) P wr ∧ w7.heap.size ≤ wr.heap.size) (fun at_ _ => n5 - (intOf at_).toNat)
  case atStart => exact ⟨0, Nat.zero_le _, rfl, HM, Nat.le_refl _⟩
  case round =>
    clear HM
    obtain ⟨q, hq, rfl, HM, hwz⟩ := hrel
    by_cases hqN : q < N
    · have hql : ((64 * q : Nat) : Int) < (n5 : Int) := by have := HPL.out; omega
      have h64 : 64 * q + 64 ≤ n5 := by have := HPL.out; omega
      obtain ⟨bl, HBL⟩ : ∃ bl, Hid ((P.drop (64 * q)).take 64 = bl) := ⟨_, rfl⟩
      obtain ⟨hs, HHS⟩ : ∃ hs, Hid (runB P h0s q = hs) := ⟨_, rfl⟩
      have hhl : hs.length = 8 := by rw [← HHS.out]; exact runB_len _ _ rfl _
      rw [HHS.out] at HM
      have hbb : Bd bl := by rw [← HBL.out]; exact (HM.p.bytes.drop _).take _
      have hbg : ∀ j, j < 64 → P.getD (64 * q + j) 0 = bl.getD j 0 := by
        intro j hj
        rw [← HBL.out]
        simp [List.getD, hj, List.getElem?_drop]
      have HBG : Hid (∀ j, j < 64 → P.getD (64 * q + j) 0 = bl.getD j 0) := hbg
      obtain ⟨q6, HQ6⟩ : ∃ q6, Hid (64 * q = q6) := ⟨_, rfl⟩
      rw [HQ6.out] at hql h64 ⊢
      have t2 : True := trivial
      clear hbg
      go_wp2_with (refine wp_alloc_ar rfl 98 rfl .u32 (List.replicate 64 0) 64 Tryz.z46 ?_; intro g7 w8 A7 hg7 hb8)
      have HM8 := HM.below hb8
      have hg7' : w7.heap.size ≤ g7 := by omega
      have hw8 : w7.heap.size ≤ w8.heap.size := by have := hb8.size; omega
      have N7 : ¬ g2 = g7 ∧ ¬ g3 = g7 ∧ ¬ g4 = g7 ∧ ¬ gP = g7 ∧ w.heap.size ≤ g7 := by omega
      clear hb8 HM hg7 hwz
      go_loopw [8, 9] (fun t _ wr => ∃ k : Nat, k ≤ 16 ∧ t = .int .i64 k ∧ Ar wr g7 98 .u32 (wa bl (4 * k)) ∧ RfW w g2 g3 g4 gP n5 c5 hs P wr ∧ w7.heap.size ≤ wr.heap.size) (fun t _ _ => 16 - (intOf t).toNat)
      case atStart => exact ⟨0, by omega, rfl, A7, HM8, hw8⟩
      case round =>
        clear A7 HM8 hw8
        obtain ⟨t, ht, rfl, A7, HM, hwz⟩ := hrel
        by_cases ht16 : t < 16
        · have htz : (t : Int) < 16 := by omega
          go_wp2_with fail
          go_loopw [9] (fun k wr => ∃ j : Nat, j ≤ 4 ∧ k = .int .i64 j ∧ Ar wr g7 98 .u32 (wa bl (4 * t + j)) ∧ RfW w g2 g3 g4 gP n5 c5 hs P wr ∧ w7.heap.size ≤ wr.heap.size) (fun k _ => 4 - (intOf k).toNat)
          case atStart => exact ⟨0, by omega, rfl, A7, HM, hwz⟩
          case round =>
            clear A7 HM hwz
            obtain ⟨j, hj, rfl, A7, HM, hwz⟩ := hrel
            by_cases hj4 : j < 4
            · have hjz : (j : Int) < 4 := by omega
              have hd4 : (4 * t + j) / 4 = t := by omega
              go_wp2_with fail
              have A7' : Ar wr.drew g7 98 .u32 (wa bl (4 * t + j)) := A7
              have HM' : RfW w g2 g3 g4 gP n5 c5 hs P wr.drew := HM.drewN 1
              have hwz' : w7.heap.size ≤ wr.drew.heap.size := hwz
              have c7 := A7'.cell (j := t) (by rw [wa_len]; omega)
              have hf7 := A7'.fz t
              have cP := HM'.p.cells _ rfl (q6 + (4 * t + j)) (by omega)
              rw [add_flat, Nat.zero_add, ← HQ6.out, HBG.out (4 * t + j) (by omega), HQ6.out] at cP
              have hxb := hbb.get (4 * t + j)
              obtain ⟨x, HXX⟩ : ∃ x, Hid (bl.getD (4 * t + j) 0 = x) := ⟨_, rfl⟩
              obtain ⟨y, HYY⟩ : ∃ x, Hid ((wa bl (4 * t + j)).getD t 0 = x) := ⟨_, rfl⟩
              rw [HXX.out] at cP hxb
              rw [HYY.out] at c7
              clear A7 HM hwz
              refine wp_region_lx (fun w' => w' = wr.drew) [17] 18 (by kernel_rfl) (by kernel_rfl) ?_
              obtain ⟨W, HW⟩ : ∃ W, Hid (wr.drew = W) := ⟨_, rfl⟩
              rw [HW.out] at A7' HM' hwz' c7 hf7 cP ⊢
              have HS0 : W = W := rfl
              refine lx_rd 0 ?vZ0 (by kernel_rfl) (fun _ _ d _ _ h => by cases d <;> exact h) (by kernel_rfl) HS0 rfl rfl rfl (fun w' hS => ?hZ0) ?_
              case hZ0 => first | (go_simp; rfl) | (go_simp; done) | (go_simp; exact idx_ok (by omega) (by omega)) | (go_simp; exact wi64' (by omega) (by omega) (by omega)) | (go_simp; intro hh; exfalso; omega)
              simp only [List.setIfInBounds_toArray, List.set_cons_zero, List.set_cons_succ]
              refine lx_rd 1 ?vZ1 (by kernel_rfl) (fun _ _ d _ _ h => by cases d <;> exact h) (by kernel_rfl) HS0 rfl rfl rfl (fun w' hS => ?hZ1) ?_
              case hZ1 => first | (go_simp; rfl) | (go_simp; done) | (go_simp; exact idx_ok (by omega) (by omega)) | (go_simp; exact wi64' (by omega) (by omega) (by omega)) | (go_simp; intro hh; exfalso; omega)
              simp only [List.setIfInBounds_toArray, List.set_cons_zero, List.set_cons_succ]
              refine lx_rd 2 (.pointer (some ⟨g7, t, none⟩)) (by kernel_rfl) (fun _ _ d _ _ h => by cases d <;> exact h) (by kernel_rfl) HS0 rfl rfl rfl (fun w' hS => ?hZ2) ?_
              case hZ2 => first | (go_simp; rfl) | (go_simp; done) | (go_simp; exact idx_ok (by omega) (by omega)) | (go_simp; exact wi64' (by omega) (by omega) (by omega)) | (go_simp; intro hh; exfalso; omega)
              simp only [List.setIfInBounds_toArray, List.set_cons_zero, List.set_cons_succ]
              refine lx_rd 3 (.int .u32 y) (by kernel_rfl) (fun _ _ d _ _ h => by cases d <;> exact h) (by kernel_rfl) HS0 rfl rfl rfl (fun w' hS => ?hZ3) ?_
              case hZ3 => subst hS; first | (go_simp; rfl) | (go_simp; done) | (go_simp; exact idx_ok (by omega) (by omega)) | (go_simp; exact wi64' (by omega) (by omega) (by omega)) | (go_simp; intro hh; exfalso; omega)
              simp only [List.setIfInBounds_toArray, List.set_cons_zero, List.set_cons_succ]
              refine lx_rd 4 (.int .u32 (y * 256 % 4294967296)) (by kernel_rfl) (fun _ _ d _ _ h => by cases d <;> exact h) (by kernel_rfl) HS0 rfl rfl rfl (fun w' hS => ?hZ4) ?_
              case hZ4 => first | (go_simp; rfl) | (go_simp; done) | (go_simp; exact idx_ok (by omega) (by omega)) | (go_simp; exact wi64' (by omega) (by omega) (by omega)) | (go_simp; intro hh; exfalso; omega)
              simp only [List.setIfInBounds_toArray, List.set_cons_zero, List.set_cons_succ]
              refine lx_rd 5 ?vZ5 (by kernel_rfl) (fun _ _ d _ _ h => by cases d <;> exact h) (by kernel_rfl) HS0 rfl rfl rfl (fun w' hS => ?hZ5) ?_
              case hZ5 => first | (go_simp; rfl) | (go_simp; done) | (go_simp; exact idx_ok (by omega) (by omega)) | (go_simp; exact wi64' (by omega) (by omega) (by omega)) | (go_simp; intro hh; exfalso; omega)
              simp only [List.setIfInBounds_toArray, List.set_cons_zero, List.set_cons_succ]
              refine lx_rd 6 ?vZ6 (by kernel_rfl) (fun _ _ d _ _ h => by cases d <;> exact h) (by kernel_rfl) HS0 rfl rfl rfl (fun w' hS => ?hZ6) ?_
              case hZ6 => first | (go_simp; rfl) | (go_simp; done) | (go_simp; exact idx_ok (by omega) (by omega)) | (go_simp; exact wi64' (by omega) (by omega) (by omega)) | (go_simp; intro hh; exfalso; omega)
              simp only [List.setIfInBounds_toArray, List.set_cons_zero, List.set_cons_succ]
              refine lx_rd 7 ?vZ7 (by kernel_rfl) (fun _ _ d _ _ h => by cases d <;> exact h) (by kernel_rfl) HS0 rfl rfl rfl (fun w' hS => ?hZ7) ?_
              case hZ7 => first | (go_simp; rfl) | (go_simp; done) | (go_simp; exact idx_ok (by omega) (by omega)) | (go_simp; exact wi64' (by omega) (by omega) (by omega)) | (go_simp; intro hh; exfalso; omega)
              simp only [List.setIfInBounds_toArray, List.set_cons_zero, List.set_cons_succ]
              refine lx_rd 8 (.int .i64 ((4 * t : Nat) : Int)) (by kernel_rfl) (fun _ _ d _ _ h => by cases d <;> exact h) (by kernel_rfl) HS0 rfl rfl rfl (fun w' hS => ?hZ8) ?_
              case hZ8 => first | (go_simp; rfl) | (go_simp; done) | (go_simp; exact idx_ok (by omega) (by omega)) | (go_simp; exact wi64' (by omega) (by omega) (by omega)) | (go_simp; intro hh; exfalso; omega)
              simp only [List.setIfInBounds_toArray, List.set_cons_zero, List.set_cons_succ]
              refine lx_rd 9 (.int .i64 ((q6 + 4 * t : Nat) : Int)) (by kernel_rfl) (fun _ _ d _ _ h => by cases d <;> exact h) (by kernel_rfl) HS0 rfl rfl rfl (fun w' hS => ?hZ9) ?_
              case hZ9 => first | (go_simp; rfl) | (go_simp; done) | (go_simp; exact idx_ok (by omega) (by omega)) | (go_simp; exact wi64' (by omega) (by omega) (by omega)) | (go_simp; intro hh; exfalso; omega)
              simp only [List.setIfInBounds_toArray, List.set_cons_zero, List.set_cons_succ]
              refine lx_rd 10 ?vZ10 (by kernel_rfl) (fun _ _ d _ _ h => by cases d <;> exact h) (by kernel_rfl) HS0 rfl rfl rfl (fun w' hS => ?hZ10) ?_
              case hZ10 => first | (go_simp; rfl) | (go_simp; done) | (go_simp; exact idx_ok (by omega) (by omega)) | (go_simp; exact wi64' (by omega) (by omega) (by omega)) | (go_simp; intro hh; exfalso; omega)
              simp only [List.setIfInBounds_toArray, List.set_cons_zero, List.set_cons_succ]
              refine lx_rd 11 (.int .i64 ((q6 + (4 * t + j) : Nat) : Int)) (by kernel_rfl) (fun _ _ d _ _ h => by cases d <;> exact h) (by kernel_rfl) HS0 rfl rfl rfl (fun w' hS => ?hZ11) ?_
              case hZ11 => first | (go_simp; rfl) | (go_simp; done) | (go_simp; exact idx_ok (by omega) (by omega)) | (go_simp; exact wi64' (by omega) (by omega) (by omega)) | (go_simp; intro hh; exfalso; omega)
              simp only [List.setIfInBounds_toArray, List.set_cons_zero, List.set_cons_succ]
              refine lx_rd 12 (.pointer (some ⟨gP, q6 + (4 * t + j), none⟩)) (by kernel_rfl) (fun _ _ d _ _ h => by cases d <;> exact h) (by kernel_rfl) HS0 rfl rfl rfl (fun w' hS => ?hZ12) ?_
              case hZ12 => first | (go_simp; rfl) | (go_simp; done) | (go_simp; exact idx_ok (by omega) (by omega)) | (go_simp; exact wi64' (by omega) (by omega) (by omega)) | (go_simp; intro hh; exfalso; omega)
              simp only [List.setIfInBounds_toArray, List.set_cons_zero, List.set_cons_succ]
              refine lx_rd 13 (.int .u8 x) (by kernel_rfl) (fun _ _ d _ _ h => by cases d <;> exact h) (by kernel_rfl) HS0 rfl rfl rfl (fun w' hS => ?hZ13) ?_
              case hZ13 => subst hS; first | (go_simp; rfl) | (go_simp; done) | (go_simp; exact idx_ok (by omega) (by omega)) | (go_simp; exact wi64' (by omega) (by omega) (by omega)) | (go_simp; intro hh; exfalso; omega)
              simp only [List.setIfInBounds_toArray, List.set_cons_zero, List.set_cons_succ]
              refine lx_rd 14 (.int .u32 x) (by kernel_rfl) (fun _ _ d _ _ h => by cases d <;> exact h) (by kernel_rfl) HS0 rfl rfl rfl (fun w' hS => ?hZ14) ?_
              case hZ14 => go_simp; exact wu32 (by omega) (by omega)
              simp only [List.setIfInBounds_toArray, List.set_cons_zero, List.set_cons_succ]
              refine lx_rd 15 (.int .u32 (bits .or .u32 (y * 256 % 4294967296) x)) (by kernel_rfl) (fun _ _ d _ _ h => by cases d <;> exact h) (by kernel_rfl) HS0 rfl rfl rfl (fun w' hS => ?hZ15) ?_
              case hZ15 => first | (go_simp; rfl) | (go_simp; done) | (go_simp; exact idx_ok (by omega) (by omega)) | (go_simp; exact wi64' (by omega) (by omega) (by omega)) | (go_simp; intro hh; exfalso; omega)
              simp only [List.setIfInBounds_toArray, List.set_cons_zero, List.set_cons_succ]
              refine lx_rd 16 (.pointer (some ⟨g7, t, none⟩)) (by kernel_rfl) (fun _ _ d _ _ h => by cases d <;> exact h) (by kernel_rfl) HS0 rfl rfl rfl (fun w' hS => ?hZ16) ?_
              case hZ16 => first | (go_simp; rfl) | (go_simp; done) | (go_simp; exact idx_ok (by omega) (by omega)) | (go_simp; exact wi64' (by omega) (by omega) (by omega)) | (go_simp; intro hh; exfalso; omega)
              simp only [List.setIfInBounds_toArray, List.set_cons_zero, List.set_cons_succ]
              refine lx_one 17 (by kernel_rfl) (stepT_store (w' := W.setCell ⟨g7, t, none⟩ (.int .u32 (bits .or .u32 (y * 256 % 4294967296) x))) rfl rfl rfl ?r17 (fun h => by cases h) ?_)
              case r17 => first | (go_simp; rfl) | go_simp
              refine lx_nil (by kernel_rfl) ?_
              have A7n : Ar (W.setCell ⟨g7, t, none⟩ (.int .u32 (bits .or .u32 (y * 256 % 4294967296) x))) g7 98 .u32 (wa bl (4 * t + (j + 1))) := by
                have := A7'.set t (bits .or .u32 (y * 256 % 4294967296) x)
                show Ar _ _ _ _ (wa bl ((4 * t + j) + 1))
                unfold wa; rw [hd4, HYY.out, HXX.out]; exact this
              have HMn := HM'.keep (keep_cell (g := g7) (i := t) (v := .int .u32 (bits .or .u32 (y * 256 % 4294967296) x))) N7
              have hwn : w7.heap.size ≤ (W.setCell ⟨g7, t, none⟩ (.int .u32 (bits .or .u32 (y * 256 % 4294967296) x))).heap.size := by simpa [World.setCell] using hwz'
              generalize W.setCell ⟨g7, t, none⟩ (.int .u32 (bits .or .u32 (y * 256 % 4294967296) x)) = Wn at A7n HMn hwn
              clear A7' HM' hwz' c7 hf7 cP HS0 HW hxb HXX HYY
              go_wp2_with fail
              go_roundw
              case rel => exact ⟨j + 1, by omega, by go_num, A7n, HMn, hwn⟩
              case measure => simp [intOf]; omega
            · obtain rfl : j = 4 := by omega
              have hjz : ¬ ((4 : Nat) : Int) < 4 := by omega
              go_wp2_with fail
              go_roundw
              case rel => exact ⟨t + 1, by omega, by go_num, A7, HM, hwz⟩
              case measure => simp [intOf]; omega
        · obtain rfl : t = 16 := by omega
          have htz : ¬ ((16 : Nat) : Int) < 16 := by omega
          have hwl := wb_len (wa bl 64) (wa_len bl 64)
          go_wp2_with fail
          go_loopw [10, 11, 12] (fun i _ _ wr => ∃ k : Nat, k ≤ 48 ∧ i = .int .i64 (16 + (k : Int)) ∧ Ar wr g7 98 .u32 (wb (wa bl 64) k) ∧ RfW w g2 g3 g4 gP n5 c5 hs P wr ∧ w7.heap.size ≤ wr.heap.size) (fun i _ _ _ => 64 - (intOf i).toNat)
          case atStart => exact ⟨0, by omega, rfl, A7, HM, hwz⟩
          case round =>
            clear A7 HM hwz
            obtain ⟨k, hk, rfl, A7, HM, hwz⟩ := hrel
            by_cases hk48 : k < 48
            · have hkz : 16 + (k : Int) < 64 := by omega
              have c14 := A7.cell (j := k + 14) (by rw [hwl]; omega)
              have c1 := A7.cell (j := k + 1) (by rw [hwl]; omega)
              have hA14 : (16 + (k : Int) - 2) = ((k + 14 : Nat) : Int) := by omega
              have hA1 : (16 + (k : Int) - 15) = ((k + 1 : Nat) : Int) := by omega
              obtain ⟨x14, H14⟩ : ∃ x, Hid ((wb (wa bl 64) k).getD (k + 14) 0 = x) := ⟨_, rfl⟩
              obtain ⟨x1, H1⟩ : ∃ x, Hid ((wb (wa bl 64) k).getD (k + 1) 0 = x) := ⟨_, rfl⟩
              rw [H14.out] at c14
              rw [H1.out] at c1
              go_wp2_with fail
              have A7' : Ar wr.drew g7 98 .u32 (wb (wa bl 64) k) := A7
              have HM' : RfW w g2 g3 g4 gP n5 c5 hs P wr.drew := HM.drewN 1
              have hwz' : w7.heap.size ≤ wr.drew.heap.size := hwz
              have hx9 := A7'.cell (j := k + 9) (by rw [hwl]; omega)
              have hx0 := A7'.cell (j := k) (by rw [hwl]; omega)
              obtain ⟨x9, H9⟩ : ∃ x, Hid ((wb (wa bl 64) k).getD (k + 9) 0 = x) := ⟨_, rfl⟩
              obtain ⟨x0, H0⟩ : ∃ x, Hid ((wb (wa bl 64) k).getD k 0 = x) := ⟨_, rfl⟩
              rw [H9.out] at hx9
              rw [H0.out] at hx0
              clear A7 HM hwz c14 c1 hA14 hA1 hwl
              refine wp_region_lx (fun w' => Below wr.drew.heap.size wr.drew w') [29] 30 (by kernel_rfl) (by kernel_rfl) ?_
              obtain ⟨W, HW⟩ : ∃ W, Hid (wr.drew = W) := ⟨_, rfl⟩
              rw [HW.out] at A7' HM' hwz' hx9 hx0 ⊢
              have HS0 : Below W.heap.size W W := Below.refl _ _
              have hl7 : g7 < W.heap.size := A7'.lt
              refine lx_rd 0 ?vA0 (by kernel_rfl) (fun _ _ d _ _ h => by cases d <;> exact h) (by kernel_rfl) HS0 rfl rfl rfl (fun w' hS => ?hA0) ?_
              case hA0 => first | (go_simp; rfl) | (go_simp; done) | (go_simp; exact idx_ok (by omega) (by omega)) | (go_simp; exact wi64' (by omega) (by omega) (by omega)) | (go_simp; intro hh; exfalso; omega)
              simp only [List.setIfInBounds_toArray, List.set_cons_zero, List.set_cons_succ]
              refine lx_rd 1 ?vA1 (by kernel_rfl) (fun _ _ d _ _ h => by cases d <;> exact h) (by kernel_rfl) HS0 rfl rfl rfl (fun w' hS => ?hA1) ?_
              case hA1 => first | (go_simp; rfl) | (go_simp; done) | (go_simp; exact idx_ok (by omega) (by omega)) | (go_simp; exact wi64' (by omega) (by omega) (by omega)) | (go_simp; intro hh; exfalso; omega)
              simp only [List.setIfInBounds_toArray, List.set_cons_zero, List.set_cons_succ]
              refine lx_rd 3 ?vA3 (by kernel_rfl) (fun _ _ d _ _ h => by cases d <;> exact h) (by kernel_rfl) HS0 rfl rfl rfl (fun w' hS => ?hA3) ?_
              case hA3 => first | (go_simp; rfl) | (go_simp; done) | (go_simp; exact idx_ok (by omega) (by omega)) | (go_simp; exact wi64' (by omega) (by omega) (by omega)) | (go_simp; intro hh; exfalso; omega)
              simp only [List.setIfInBounds_toArray, List.set_cons_zero, List.set_cons_succ]
              refine lx_rd 6 ?vA6 (by kernel_rfl) (fun _ _ d _ _ h => by cases d <;> exact h) (by kernel_rfl) HS0 rfl rfl rfl (fun w' hS => ?hA6) ?_
              case hA6 => first | (go_simp; rfl) | (go_simp; done) | (go_simp; exact idx_ok (by omega) (by omega)) | (go_simp; exact wi64' (by omega) (by omega) (by omega)) | (go_simp; intro hh; exfalso; omega)
              simp only [List.setIfInBounds_toArray, List.set_cons_zero, List.set_cons_succ]
              refine lx_rd 7 (.int .u32 (x14 / 1024)) (by kernel_rfl) (fun _ _ d _ _ h => by cases d <;> exact h) (by kernel_rfl) HS0 rfl rfl rfl (fun w' hS => ?hA7) ?_
              case hA7 => first | (go_simp; rfl) | (go_simp; done) | (go_simp; exact idx_ok (by omega) (by omega)) | (go_simp; exact wi64' (by omega) (by omega) (by omega)) | (go_simp; intro hh; exfalso; omega)
              simp only [List.setIfInBounds_toArray, List.set_cons_zero, List.set_cons_succ]
              refine lx_rd 9 ?vA9 (by kernel_rfl) (fun _ _ d _ _ h => by cases d <;> exact h) (by kernel_rfl) HS0 rfl rfl rfl (fun w' hS => ?hA9) ?_
              case hA9 => first | (go_simp; rfl) | (go_simp; done) | (go_simp; exact idx_ok (by omega) (by omega)) | (go_simp; exact wi64' (by omega) (by omega) (by omega)) | (go_simp; intro hh; exfalso; omega)
              simp only [List.setIfInBounds_toArray, List.set_cons_zero, List.set_cons_succ]
              refine lx_rd 10 (.int .i64 ((k + 9 : Nat) : Int)) (by kernel_rfl) (fun _ _ d _ _ h => by cases d <;> exact h) (by kernel_rfl) HS0 rfl rfl rfl (fun w' hS => ?hA10) ?_
              case hA10 => first | (go_simp; rfl) | (go_simp; done) | (go_simp; exact idx_ok (by omega) (by omega)) | (go_simp; exact wi64' (by omega) (by omega) (by omega)) | (go_simp; intro hh; exfalso; omega)
              simp only [List.setIfInBounds_toArray, List.set_cons_zero, List.set_cons_succ]
              refine lx_rd 11 (.pointer (some ⟨g7, k + 9, none⟩)) (by kernel_rfl) (fun _ _ d _ _ h => by cases d <;> exact h) (by kernel_rfl) HS0 rfl rfl rfl (fun w' hS => ?hA11) ?_
              case hA11 => first | (go_simp; rfl) | (go_simp; done) | (go_simp; exact idx_ok (by omega) (by omega)) | (go_simp; exact wi64' (by omega) (by omega) (by omega)) | (go_simp; intro hh; exfalso; omega)
              simp only [List.setIfInBounds_toArray, List.set_cons_zero, List.set_cons_succ]
              refine lx_rd 12 (.int .u32 x9) (by kernel_rfl) (fun _ _ d _ _ h => by cases d <;> exact h) (by kernel_rfl) HS0 rfl rfl rfl (fun w' hS => ?hA12) ?_
              case hA12 => have hq : w'.cell? ⟨g7, k + 9, none⟩ = some (.int .u32 x9) := (hS.cell (p := ⟨g7, k + 9, none⟩) hl7).trans hx9; first | (go_simp; rfl) | (go_simp; done) | (go_simp; exact idx_ok (by omega) (by omega)) | (go_simp; exact wi64' (by omega) (by omega) (by omega)) | (go_simp; intro hh; exfalso; omega)
              simp only [List.setIfInBounds_toArray, List.set_cons_zero, List.set_cons_succ]
              refine lx_rd 14 ?vA14 (by kernel_rfl) (fun _ _ d _ _ h => by cases d <;> exact h) (by kernel_rfl) HS0 rfl rfl rfl (fun w' hS => ?hA14) ?_
              case hA14 => first | (go_simp; rfl) | (go_simp; done) | (go_simp; exact idx_ok (by omega) (by omega)) | (go_simp; exact wi64' (by omega) (by omega) (by omega)) | (go_simp; intro hh; exfalso; omega)
              simp only [List.setIfInBounds_toArray, List.set_cons_zero, List.set_cons_succ]
              refine lx_rd 16 ?vA16 (by kernel_rfl) (fun _ _ d _ _ h => by cases d <;> exact h) (by kernel_rfl) HS0 rfl rfl rfl (fun w' hS => ?hA16) ?_
              case hA16 => first | (go_simp; rfl) | (go_simp; done) | (go_simp; exact idx_ok (by omega) (by omega)) | (go_simp; exact wi64' (by omega) (by omega) (by omega)) | (go_simp; intro hh; exfalso; omega)
              simp only [List.setIfInBounds_toArray, List.set_cons_zero, List.set_cons_succ]
              refine lx_rd 19 ?vA19 (by kernel_rfl) (fun _ _ d _ _ h => by cases d <;> exact h) (by kernel_rfl) HS0 rfl rfl rfl (fun w' hS => ?hA19) ?_
              case hA19 => first | (go_simp; rfl) | (go_simp; done) | (go_simp; exact idx_ok (by omega) (by omega)) | (go_simp; exact wi64' (by omega) (by omega) (by omega)) | (go_simp; intro hh; exfalso; omega)
              simp only [List.setIfInBounds_toArray, List.set_cons_zero, List.set_cons_succ]
              refine lx_rd 20 (.int .u32 (x1 / 8)) (by kernel_rfl) (fun _ _ d _ _ h => by cases d <;> exact h) (by kernel_rfl) HS0 rfl rfl rfl (fun w' hS => ?hA20) ?_
              case hA20 => first | (go_simp; rfl) | (go_simp; done) | (go_simp; exact idx_ok (by omega) (by omega)) | (go_simp; exact wi64' (by omega) (by omega) (by omega)) | (go_simp; intro hh; exfalso; omega)
              simp only [List.setIfInBounds_toArray, List.set_cons_zero, List.set_cons_succ]
              refine lx_rd 23 ?vA23 (by kernel_rfl) (fun _ _ d _ _ h => by cases d <;> exact h) (by kernel_rfl) HS0 rfl rfl rfl (fun w' hS => ?hA23) ?_
              case hA23 => first | (go_simp; rfl) | (go_simp; done) | (go_simp; exact idx_ok (by omega) (by omega)) | (go_simp; exact wi64' (by omega) (by omega) (by omega)) | (go_simp; intro hh; exfalso; omega)
              simp only [List.setIfInBounds_toArray, List.set_cons_zero, List.set_cons_succ]
              refine lx_rd 24 (.int .i64 (k : Int)) (by kernel_rfl) (fun _ _ d _ _ h => by cases d <;> exact h) (by kernel_rfl) HS0 rfl rfl rfl (fun w' hS => ?hA24) ?_
              case hA24 => first | (go_simp; rfl) | (go_simp; done) | (go_simp; exact idx_ok (by omega) (by omega)) | (go_simp; exact wi64' (by omega) (by omega) (by omega)) | (go_simp; intro hh; exfalso; omega)
              simp only [List.setIfInBounds_toArray, List.set_cons_zero, List.set_cons_succ]
              refine lx_rd 25 (.pointer (some ⟨g7, k, none⟩)) (by kernel_rfl) (fun _ _ d _ _ h => by cases d <;> exact h) (by kernel_rfl) HS0 rfl rfl rfl (fun w' hS => ?hA25) ?_
              case hA25 => first | (go_simp; rfl) | (go_simp; done) | (go_simp; exact idx_ok (by omega) (by omega)) | (go_simp; exact wi64' (by omega) (by omega) (by omega)) | (go_simp; intro hh; exfalso; omega)
              simp only [List.setIfInBounds_toArray, List.set_cons_zero, List.set_cons_succ]
              refine lx_rd 26 (.int .u32 x0) (by kernel_rfl) (fun _ _ d _ _ h => by cases d <;> exact h) (by kernel_rfl) HS0 rfl rfl rfl (fun w' hS => ?hA26) ?_
              case hA26 => have hq : w'.cell? ⟨g7, k, none⟩ = some (.int .u32 x0) := (hS.cell (p := ⟨g7, k, none⟩) hl7).trans hx0; first | (go_simp; rfl) | (go_simp; done) | (go_simp; exact idx_ok (by omega) (by omega)) | (go_simp; exact wi64' (by omega) (by omega) (by omega)) | (go_simp; intro hh; exfalso; omega)
              simp only [List.setIfInBounds_toArray, List.set_cons_zero, List.set_cons_succ]
              refine lx_one 2 (by kernel_rfl) (stepT_call 57 #[.int .u32 x14, .int .i64 17] rfl rfl rfl ?rr2 ?_)
              case rr2 => first | (go_simp; rfl) | go_simp
              refine (ror_any x14 17 _ (by omega)).mono ?_
              rintro e u2 ⟨rfl, d2, hd2⟩
              have HS2 : Below W.heap.size W u2 := by rw [hd2]; exact below_drewN HS0 _
              clear hd2
              refine ⟨_, rfl, fun _ => HS2, ?_⟩
              simp only [List.setIfInBounds_toArray, List.set_cons_zero, List.set_cons_succ]
              refine lx_one 4 (by kernel_rfl) (stepT_call 57 #[.int .u32 x14, .int .i64 19] rfl rfl rfl ?rr4 ?_)
              case rr4 => first | (go_simp; rfl) | go_simp
              refine (ror_any x14 19 _ (by omega)).mono ?_
              rintro e u4 ⟨rfl, d4, hd4⟩
              have HS4 : Below W.heap.size W u4 := by rw [hd4]; exact below_drewN HS2 _
              clear hd4
              refine ⟨_, rfl, fun _ => HS4, ?_⟩
              simp only [List.setIfInBounds_toArray, List.set_cons_zero, List.set_cons_succ]
              refine lx_rd 5 (.int .u32 (xr (rr x14 17) (rr x14 19))) (by kernel_rfl) (fun _ _ d _ _ h => by cases d <;> exact h) (by kernel_rfl) HS4 rfl rfl rfl (fun w' hS => ?hB5) ?_
              case hB5 => first | (go_simp; rfl) | (go_simp; done) | (go_simp; exact idx_ok (by omega) (by omega)) | (go_simp; exact wi64' (by omega) (by omega) (by omega)) | (go_simp; intro hh; exfalso; omega)
              simp only [List.setIfInBounds_toArray, List.set_cons_zero, List.set_cons_succ]
              refine lx_rd 8 (.int .u32 (ws1 x14)) (by kernel_rfl) (fun _ _ d _ _ h => by cases d <;> exact h) (by kernel_rfl) HS4 rfl rfl rfl (fun w' hS => ?hB8) ?_
              case hB8 => first | (go_simp; rfl) | (go_simp; done) | (go_simp; exact idx_ok (by omega) (by omega)) | (go_simp; exact wi64' (by omega) (by omega) (by omega)) | (go_simp; intro hh; exfalso; omega)
              simp only [List.setIfInBounds_toArray, List.set_cons_zero, List.set_cons_succ]
              refine lx_rd 13 (.int .u32 (ad (ws1 x14) x9)) (by kernel_rfl) (fun _ _ d _ _ h => by cases d <;> exact h) (by kernel_rfl) HS4 rfl rfl rfl (fun w' hS => ?hB13) ?_
              case hB13 => first | (go_simp; rfl) | (go_simp; done) | (go_simp; exact idx_ok (by omega) (by omega)) | (go_simp; exact wi64' (by omega) (by omega) (by omega)) | (go_simp; intro hh; exfalso; omega)
              simp only [List.setIfInBounds_toArray, List.set_cons_zero, List.set_cons_succ]
              refine lx_one 15 (by kernel_rfl) (stepT_call 57 #[.int .u32 x1, .int .i64 7] rfl rfl rfl ?rr15 ?_)
              case rr15 => first | (go_simp; rfl) | go_simp
              refine (ror_any x1 7 _ (by omega)).mono ?_
              rintro e u15 ⟨rfl, d15, hd15⟩
              have HS15 : Below W.heap.size W u15 := by rw [hd15]; exact below_drewN HS4 _
              clear hd15
              refine ⟨_, rfl, fun _ => HS15, ?_⟩
              simp only [List.setIfInBounds_toArray, List.set_cons_zero, List.set_cons_succ]
              refine lx_one 17 (by kernel_rfl) (stepT_call 57 #[.int .u32 x1, .int .i64 18] rfl rfl rfl ?rr17 ?_)
              case rr17 => first | (go_simp; rfl) | go_simp
              refine (ror_any x1 18 _ (by omega)).mono ?_
              rintro e u17 ⟨rfl, d17, hd17⟩
              have HS17 : Below W.heap.size W u17 := by rw [hd17]; exact below_drewN HS15 _
              clear hd17
              refine ⟨_, rfl, fun _ => HS17, ?_⟩
              simp only [List.setIfInBounds_toArray, List.set_cons_zero, List.set_cons_succ]
              refine lx_rd 18 (.int .u32 (xr (rr x1 7) (rr x1 18))) (by kernel_rfl) (fun _ _ d _ _ h => by cases d <;> exact h) (by kernel_rfl) HS17 rfl rfl rfl (fun w' hS => ?hC18) ?_
              case hC18 => first | (go_simp; rfl) | (go_simp; done) | (go_simp; exact idx_ok (by omega) (by omega)) | (go_simp; exact wi64' (by omega) (by omega) (by omega)) | (go_simp; intro hh; exfalso; omega)
              simp only [List.setIfInBounds_toArray, List.set_cons_zero, List.set_cons_succ]
              refine lx_rd 21 (.int .u32 (ws0 x1)) (by kernel_rfl) (fun _ _ d _ _ h => by cases d <;> exact h) (by kernel_rfl) HS17 rfl rfl rfl (fun w' hS => ?hC21) ?_
              case hC21 => first | (go_simp; rfl) | (go_simp; done) | (go_simp; exact idx_ok (by omega) (by omega)) | (go_simp; exact wi64' (by omega) (by omega) (by omega)) | (go_simp; intro hh; exfalso; omega)
              simp only [List.setIfInBounds_toArray, List.set_cons_zero, List.set_cons_succ]
              refine lx_rd 22 (.int .u32 (ad (ad (ws1 x14) x9) (ws0 x1))) (by kernel_rfl) (fun _ _ d _ _ h => by cases d <;> exact h) (by kernel_rfl) HS17 rfl rfl rfl (fun w' hS => ?hC22) ?_
              case hC22 => first | (go_simp; rfl) | (go_simp; done) | (go_simp; exact idx_ok (by omega) (by omega)) | (go_simp; exact wi64' (by omega) (by omega) (by omega)) | (go_simp; intro hh; exfalso; omega)
              simp only [List.setIfInBounds_toArray, List.set_cons_zero, List.set_cons_succ]
              refine lx_rd 27 (.int .u32 (ad (ad (ad (ws1 x14) x9) (ws0 x1)) x0)) (by kernel_rfl) (fun _ _ d _ _ h => by cases d <;> exact h) (by kernel_rfl) HS17 rfl rfl rfl (fun w' hS => ?hC27) ?_
              case hC27 => first | (go_simp; rfl) | (go_simp; done) | (go_simp; exact idx_ok (by omega) (by omega)) | (go_simp; exact wi64' (by omega) (by omega) (by omega)) | (go_simp; intro hh; exfalso; omega)
              simp only [List.setIfInBounds_toArray, List.set_cons_zero, List.set_cons_succ]
              refine lx_rd 28 (.pointer (some ⟨g7, k + 16, none⟩)) (by kernel_rfl) (fun _ _ d _ _ h => by cases d <;> exact h) (by kernel_rfl) HS17 rfl rfl rfl (fun w' hS => ?hC28) ?_
              case hC28 => go_simp; rw [if_pos (by omega), show (16 + (k : Int)).toNat = k + 16 from by omega]
              simp only [List.setIfInBounds_toArray, List.set_cons_zero, List.set_cons_succ]
              have A7u := A7'.below HS17 A7'.lt
              have HMu := HM'.below HS17
              have hwu : w7.heap.size ≤ u17.heap.size := by have := HS17.size; omega
              have hcu := A7u.cell (j := k + 16) (by rw [wb_len (wa bl 64) (wa_len bl 64)]; omega)
              have hfu := A7u.fz (k + 16)
              generalize hxv : (wb (wa bl 64) k).getD (k + 16) 0 = xv at hcu
              clear hxv
              refine lx_one 29 (by kernel_rfl) (stepT_store (w' := u17.setCell ⟨g7, k + 16, none⟩ (.int .u32 (ad (ad (ad (ws1 x14) x9) (ws0 x1)) x0))) rfl rfl rfl ?r29 (fun h => by cases h) ?_)
              case r29 => first | (go_simp; rfl) | go_simp
              refine lx_nil (by kernel_rfl) ?_
              have A7n : Ar (u17.setCell ⟨g7, k + 16, none⟩ (.int .u32 (ad (ad (ad (ws1 x14) x9) (ws0 x1)) x0))) g7 98 .u32 (wb (wa bl 64) (k + 1)) := by
                have := A7u.set (k + 16) (ad (ad (ad (ws1 x14) x9) (ws0 x1)) x0)
                unfold wb; rw [H14.out, H9.out, H1.out, H0.out]; exact this
              have HMn := HMu.keep (keep_cell (g := g7) (i := k + 16) (v := .int .u32 (ad (ad (ad (ws1 x14) x9) (ws0 x1)) x0))) N7
              have hwn : w7.heap.size ≤ (u17.setCell ⟨g7, k + 16, none⟩ (.int .u32 (ad (ad (ad (ws1 x14) x9) (ws0 x1)) x0))).heap.size := by simpa [World.setCell] using hwu
              generalize u17.setCell ⟨g7, k + 16, none⟩ (.int .u32 (ad (ad (ad (ws1 x14) x9) (ws0 x1)) x0)) = Wn at A7n HMn hwn
              clear A7' HM' hwz' hx9 hx0 HS0 HS2 HS4 HS15 HS17 HW A7u HMu hwu hcu hfu H14 H9 H1 H0
              go_wp2_with fail
              go_roundw
              case rel => exact ⟨k + 1, by omega, by go_num, A7n, HMn, hwn⟩
              case measure => simp [intOf]; omega
            · obtain rfl : k = 48 := by omega
              have hkz : ¬ 16 + ((48 : Nat) : Int) < 64 := by omega
              obtain ⟨ws, HWS⟩ : ∃ ws, Hid (words bl = ws) := ⟨_, rfl⟩
              have A7w : Ar wr g7 98 .u32 ws := by rw [← HWS.out]; exact A7
              have hwsl : ws.length = 64 := by rw [← HWS.out]; exact words_len bl
              have hi44 := (size_of Tryz.u44).2
              obtain ⟨s0, HS0⟩ : ∃ s0, Hid (S8.of hs = s0) := ⟨_, rfl⟩
              clear A7 hwl
              go_wp2_with (first
                | (refine wp_load_ar rfl 89 (.tmp 3) rfl g3 rfl 89 .u32 hs 88 8 HM.h Tryz.u44 hhl ?_)
                | (refine wp_alloc_ar rfl 89 rfl .u32 (List.replicate 8 0) 8 Tryz.z44 ?_; intro g13 w9 A13 hg13 hb9)
                | (refine wp_store_ar rfl 89 (.tmp 13) (.tmp 98) rfl g13 rfl .u32 hs rfl 89 _ A13 (by rw [hhl]; rfl) (by rw [hhl]; exact hi44) ?_; intro w10 A13' hk10 hs10))
              have l7 := A7w.lt
              have N13 : ¬ g2 = g13 ∧ ¬ g3 = g13 ∧ ¬ g4 = g13 ∧ ¬ gP = g13 ∧ w.heap.size ≤ g13 := by omega
              have n713 : ¬ g7 = g13 := by omega
              have A13s : Ar w10 g13 89 .u32 s0.l := by
                obtain ⟨a0, b0, c0, d0, e0, f0, g0, h0, he⟩ := list8' hhl
                have : s0.l = hs := by rw [← HS0.out, he]; rfl
                rw [this]; exact A13'
              have A7x : Ar w10 g7 98 .u32 ws := (A7w.below hb9 l7).keep hk10 n713
              have HMx := (HM.below hb9).keep hk10 N13
              have hwx : w7.heap.size ≤ w10.heap.size := by have := hb9.size; have := hk10.size; omega
              clear A13' A13 hk10 hs10 hb9 A7w HM hwz hg13 l7
              go_loopw [14, 15, 16, 17, 18] (fun t _ _ _ _ wr => ∃ (k : Nat) (s : S8), k ≤ 64 ∧ t = .int .i64 k ∧ Hid (rnds kws ws s0 k = s) ∧ Ar wr g13 89 .u32 s.l ∧ Ar wr g7 98 .u32 ws ∧ RfW w g2 g3 g4 gP n5 c5 hs P wr ∧ w7.heap.size ≤ wr.heap.size) (fun t _ _ _ _ _ => 64 - (intOf t).toNat)
              case atStart => exact ⟨0, s0, by omega, rfl, rfl, A13s, A7x, HMx, hwx⟩
              case round =>
                clear A13s A7x HMx hwx
                obtain ⟨k, s, hk, rfl, HR, A13, A7, HM, hwz⟩ := hrel
                by_cases hk64 : k < 64
                · have hkz2 : (k : Int) < 64 := by omega
                  have c0 := A13.cell (j := 0) (by show 0 < 8; omega)
                  have c1 := A13.cell (j := 1) (by show 1 < 8; omega)
                  have c2 := A13.cell (j := 2) (by show 2 < 8; omega)
                  have c3 := A13.cell (j := 3) (by show 3 < 8; omega)
                  have c4 := A13.cell (j := 4) (by show 4 < 8; omega)
                  have c5' := A13.cell (j := 5) (by show 5 < 8; omega)
                  have c6 := A13.cell (j := 6) (by show 6 < 8; omega)
                  have c7 := A13.cell (j := 7) (by show 7 < 8; omega)
                  have ck := HM.k.cell (j := k) hk64
                  have cw := A7.cell (j := k) (by omega)
                  obtain ⟨x, HXK⟩ : ∃ x, Hid (kws.getD k 0 = x) := ⟨_, rfl⟩
                  obtain ⟨y, HYW⟩ : ∃ x, Hid (ws.getD k 0 = x) := ⟨_, rfl⟩
                  rw [HXK.out] at ck
                  rw [HYW.out] at cw
                  simp only [S8.l, List.getD_cons_zero, List.getD_cons_succ] at c0 c1 c2 c3 c4 c5' c6 c7
                  go_wp2_with fail
                  have hcs : Ar wr.drew g13 89 .u32 s.l := A13
                  have HM' : RfW w g2 g3 g4 gP n5 c5 hs P wr.drew := HM.drewN 1
                  have A7' : Ar wr.drew g7 98 .u32 ws := A7
                  have hwz' : w7.heap.size ≤ wr.drew.heap.size := hwz
                  have c0 : wr.drew.cell? ⟨g13, 0, none⟩ = _ := c0
                  have c1 : wr.drew.cell? ⟨g13, 1, none⟩ = _ := c1
                  have c2 : wr.drew.cell? ⟨g13, 2, none⟩ = _ := c2
                  have c3 : wr.drew.cell? ⟨g13, 3, none⟩ = _ := c3
                  have c5' : wr.drew.cell? ⟨g13, 5, none⟩ = _ := c5'
                  have c6 : wr.drew.cell? ⟨g13, 6, none⟩ = _ := c6
                  have c7 : wr.drew.cell? ⟨g13, 7, none⟩ = _ := c7
                  have ck : wr.drew.cell? ⟨g4, k, none⟩ = _ := ck
                  have cw : wr.drew.cell? ⟨g7, k, none⟩ = _ := cw
                  clear A13 HM A7 hwz c4
                  refine wp_region_lx (fun w' => Below wr.drew.heap.size wr.drew w') [] 31 (by kernel_rfl) (by kernel_rfl) ?_
                  obtain ⟨W, HW⟩ : ∃ W, Hid (wr.drew = W) := ⟨_, rfl⟩
                  rw [HW.out] at hcs HM' A7' hwz' c0 c1 c2 c3 c5' c6 c7 ck cw ⊢
                  have HSZ : Below W.heap.size W W := Below.refl _ _
                  have hl13 : g13 < W.heap.size := hcs.lt
                  have hl7 : g7 < W.heap.size := A7'.lt
                  have hl4 : g4 < W.heap.size := HM'.k.lt
                  refine lx_rd 0 (.pointer (some ⟨g13, 7, none⟩)) (by kernel_rfl) (fun _ _ d _ _ h => by cases d <;> exact h) (by kernel_rfl) HSZ rfl rfl rfl (fun w' hS => ?hM0) ?_
                  case hM0 => first | (go_simp; rfl) | (go_simp; done) | (go_simp; exact idx_ok (by omega) (by omega)) | (go_simp; exact wi64' (by omega) (by omega) (by omega)) | (go_simp; intro hh; exfalso; omega)
                  simp only [List.setIfInBounds_toArray, List.set_cons_zero, List.set_cons_succ]
                  refine lx_rd 1 (.int .u32 s.h) (by kernel_rfl) (fun _ _ d _ _ h => by cases d <;> exact h) (by kernel_rfl) HSZ rfl rfl rfl (fun w' hS => ?hM1) ?_
                  case hM1 => have hq := (hS.cell (p := ⟨g13, 7, none⟩) hl13).trans c7; first | (go_simp; rfl) | (go_simp; done) | (go_simp; exact idx_ok (by omega) (by omega)) | (go_simp; exact wi64' (by omega) (by omega) (by omega)) | (go_simp; intro hh; exfalso; omega)
                  simp only [List.setIfInBounds_toArray, List.set_cons_zero, List.set_cons_succ]
                  refine lx_rd 2 ?vM2 (by kernel_rfl) (fun _ _ d _ _ h => by cases d <;> exact h) (by kernel_rfl) HSZ rfl rfl rfl (fun w' hS => ?hM2) ?_
                  case hM2 => first | (go_simp; rfl) | (go_simp; done) | (go_simp; exact idx_ok (by omega) (by omega)) | (go_simp; exact wi64' (by omega) (by omega) (by omega)) | (go_simp; intro hh; exfalso; omega)
                  simp only [List.setIfInBounds_toArray, List.set_cons_zero, List.set_cons_succ]
                  refine lx_rd 4 ?vM4 (by kernel_rfl) (fun _ _ d _ _ h => by cases d <;> exact h) (by kernel_rfl) HSZ rfl rfl rfl (fun w' hS => ?hM4) ?_
                  case hM4 => first | (go_simp; rfl) | (go_simp; done) | (go_simp; exact idx_ok (by omega) (by omega)) | (go_simp; exact wi64' (by omega) (by omega) (by omega)) | (go_simp; intro hh; exfalso; omega)
                  simp only [List.setIfInBounds_toArray, List.set_cons_zero, List.set_cons_succ]
                  refine lx_rd 7 ?vM7 (by kernel_rfl) (fun _ _ d _ _ h => by cases d <;> exact h) (by kernel_rfl) HSZ rfl rfl rfl (fun w' hS => ?hM7) ?_
                  case hM7 => first | (go_simp; rfl) | (go_simp; done) | (go_simp; exact idx_ok (by omega) (by omega)) | (go_simp; exact wi64' (by omega) (by omega) (by omega)) | (go_simp; intro hh; exfalso; omega)
                  simp only [List.setIfInBounds_toArray, List.set_cons_zero, List.set_cons_succ]
                  refine lx_rd 11 ?vM11 (by kernel_rfl) (fun _ _ d _ _ h => by cases d <;> exact h) (by kernel_rfl) HSZ rfl rfl rfl (fun w' hS => ?hM11) ?_
                  case hM11 => first | (go_simp; rfl) | (go_simp; done) | (go_simp; exact idx_ok (by omega) (by omega)) | (go_simp; exact wi64' (by omega) (by omega) (by omega)) | (go_simp; intro hh; exfalso; omega)
                  simp only [List.setIfInBounds_toArray, List.set_cons_zero, List.set_cons_succ]
                  refine lx_rd 12 (.pointer (some ⟨g13, 5, none⟩)) (by kernel_rfl) (fun _ _ d _ _ h => by cases d <;> exact h) (by kernel_rfl) HSZ rfl rfl rfl (fun w' hS => ?hM12) ?_
                  case hM12 => first | (go_simp; rfl) | (go_simp; done) | (go_simp; exact idx_ok (by omega) (by omega)) | (go_simp; exact wi64' (by omega) (by omega) (by omega)) | (go_simp; intro hh; exfalso; omega)
                  simp only [List.setIfInBounds_toArray, List.set_cons_zero, List.set_cons_succ]
                  refine lx_rd 13 (.int .u32 s.f) (by kernel_rfl) (fun _ _ d _ _ h => by cases d <;> exact h) (by kernel_rfl) HSZ rfl rfl rfl (fun w' hS => ?hM13) ?_
                  case hM13 => have hq := (hS.cell (p := ⟨g13, 5, none⟩) hl13).trans c5'; first | (go_simp; rfl) | (go_simp; done) | (go_simp; exact idx_ok (by omega) (by omega)) | (go_simp; exact wi64' (by omega) (by omega) (by omega)) | (go_simp; intro hh; exfalso; omega)
                  simp only [List.setIfInBounds_toArray, List.set_cons_zero, List.set_cons_succ]
                  refine lx_rd 14 (.int .u32 (bits .and .u32 s.e s.f)) (by kernel_rfl) (fun _ _ d _ _ h => by cases d <;> exact h) (by kernel_rfl) HSZ rfl rfl rfl (fun w' hS => ?hM14) ?_
                  case hM14 => first | (go_simp; rfl) | (go_simp; done) | (go_simp; exact idx_ok (by omega) (by omega)) | (go_simp; exact wi64' (by omega) (by omega) (by omega)) | (go_simp; intro hh; exfalso; omega)
                  simp only [List.setIfInBounds_toArray, List.set_cons_zero, List.set_cons_succ]
                  refine lx_rd 15 ?vM15 (by kernel_rfl) (fun _ _ d _ _ h => by cases d <;> exact h) (by kernel_rfl) HSZ rfl rfl rfl (fun w' hS => ?hM15) ?_
                  case hM15 => first | (go_simp; rfl) | (go_simp; done) | (go_simp; exact idx_ok (by omega) (by omega)) | (go_simp; exact wi64' (by omega) (by omega) (by omega)) | (go_simp; intro hh; exfalso; omega)
                  simp only [List.setIfInBounds_toArray, List.set_cons_zero, List.set_cons_succ]
                  refine lx_rd 16 (.int .u32 (xr 4294967295 s.e)) (by kernel_rfl) (fun _ _ d _ _ h => by cases d <;> exact h) (by kernel_rfl) HSZ rfl rfl rfl (fun w' hS => ?hM16) ?_
                  case hM16 => first | (go_simp; rfl) | (go_simp; done) | (go_simp; exact idx_ok (by omega) (by omega)) | (go_simp; exact wi64' (by omega) (by omega) (by omega)) | (go_simp; intro hh; exfalso; omega)
                  simp only [List.setIfInBounds_toArray, List.set_cons_zero, List.set_cons_succ]
                  refine lx_rd 17 (.pointer (some ⟨g13, 6, none⟩)) (by kernel_rfl) (fun _ _ d _ _ h => by cases d <;> exact h) (by kernel_rfl) HSZ rfl rfl rfl (fun w' hS => ?hM17) ?_
                  case hM17 => first | (go_simp; rfl) | (go_simp; done) | (go_simp; exact idx_ok (by omega) (by omega)) | (go_simp; exact wi64' (by omega) (by omega) (by omega)) | (go_simp; intro hh; exfalso; omega)
                  simp only [List.setIfInBounds_toArray, List.set_cons_zero, List.set_cons_succ]
                  refine lx_rd 18 (.int .u32 s.g) (by kernel_rfl) (fun _ _ d _ _ h => by cases d <;> exact h) (by kernel_rfl) HSZ rfl rfl rfl (fun w' hS => ?hM18) ?_
                  case hM18 => have hq := (hS.cell (p := ⟨g13, 6, none⟩) hl13).trans c6; first | (go_simp; rfl) | (go_simp; done) | (go_simp; exact idx_ok (by omega) (by omega)) | (go_simp; exact wi64' (by omega) (by omega) (by omega)) | (go_simp; intro hh; exfalso; omega)
                  simp only [List.setIfInBounds_toArray, List.set_cons_zero, List.set_cons_succ]
                  refine lx_rd 19 (.int .u32 (bits .and .u32 (xr 4294967295 s.e) s.g)) (by kernel_rfl) (fun _ _ d _ _ h => by cases d <;> exact h) (by kernel_rfl) HSZ rfl rfl rfl (fun w' hS => ?hM19) ?_
                  case hM19 => first | (go_simp; rfl) | (go_simp; done) | (go_simp; exact idx_ok (by omega) (by omega)) | (go_simp; exact wi64' (by omega) (by omega) (by omega)) | (go_simp; intro hh; exfalso; omega)
                  simp only [List.setIfInBounds_toArray, List.set_cons_zero, List.set_cons_succ]
                  refine lx_rd 20 (.int .u32 (wch s.e s.f s.g)) (by kernel_rfl) (fun _ _ d _ _ h => by cases d <;> exact h) (by kernel_rfl) HSZ rfl rfl rfl (fun w' hS => ?hM20) ?_
                  case hM20 => first | (go_simp; rfl) | (go_simp; done) | (go_simp; exact idx_ok (by omega) (by omega)) | (go_simp; exact wi64' (by omega) (by omega) (by omega)) | (go_simp; intro hh; exfalso; omega)
                  simp only [List.setIfInBounds_toArray, List.set_cons_zero, List.set_cons_succ]
                  refine lx_rd 22 ?vM22 (by kernel_rfl) (fun _ _ d _ _ h => by cases d <;> exact h) (by kernel_rfl) HSZ rfl rfl rfl (fun w' hS => ?hM22) ?_
                  case hM22 => first | (go_simp; rfl) | (go_simp; done) | (go_simp; exact idx_ok (by omega) (by omega)) | (go_simp; exact wi64' (by omega) (by omega) (by omega)) | (go_simp; intro hh; exfalso; omega)
                  simp only [List.setIfInBounds_toArray, List.set_cons_zero, List.set_cons_succ]
                  refine lx_rd 23 (.pointer (some ⟨g4, k, none⟩)) (by kernel_rfl) (fun _ _ d _ _ h => by cases d <;> exact h) (by kernel_rfl) HSZ rfl rfl rfl (fun w' hS => ?hM23) ?_
                  case hM23 => first | (go_simp; rfl) | (go_simp; done) | (go_simp; exact idx_ok (by omega) (by omega)) | (go_simp; exact wi64' (by omega) (by omega) (by omega)) | (go_simp; intro hh; exfalso; omega)
                  simp only [List.setIfInBounds_toArray, List.set_cons_zero, List.set_cons_succ]
                  refine lx_rd 24 (.int .u32 x) (by kernel_rfl) (fun _ _ d _ _ h => by cases d <;> exact h) (by kernel_rfl) HSZ rfl rfl rfl (fun w' hS => ?hM24) ?_
                  case hM24 => have hq := (hS.cell (p := ⟨g4, k, none⟩) hl4).trans ck; first | (go_simp; rfl) | (go_simp; done) | (go_simp; exact idx_ok (by omega) (by omega)) | (go_simp; exact wi64' (by omega) (by omega) (by omega)) | (go_simp; intro hh; exfalso; omega)
                  simp only [List.setIfInBounds_toArray, List.set_cons_zero, List.set_cons_succ]
                  refine lx_rd 26 ?vM26 (by kernel_rfl) (fun _ _ d _ _ h => by cases d <;> exact h) (by kernel_rfl) HSZ rfl rfl rfl (fun w' hS => ?hM26) ?_
                  case hM26 => first | (go_simp; rfl) | (go_simp; done) | (go_simp; exact idx_ok (by omega) (by omega)) | (go_simp; exact wi64' (by omega) (by omega) (by omega)) | (go_simp; intro hh; exfalso; omega)
                  simp only [List.setIfInBounds_toArray, List.set_cons_zero, List.set_cons_succ]
                  refine lx_rd 27 (.pointer (some ⟨g7, k, none⟩)) (by kernel_rfl) (fun _ _ d _ _ h => by cases d <;> exact h) (by kernel_rfl) HSZ rfl rfl rfl (fun w' hS => ?hM27) ?_
                  case hM27 => first | (go_simp; rfl) | (go_simp; done) | (go_simp; exact idx_ok (by omega) (by omega)) | (go_simp; exact wi64' (by omega) (by omega) (by omega)) | (go_simp; intro hh; exfalso; omega)
                  simp only [List.setIfInBounds_toArray, List.set_cons_zero, List.set_cons_succ]
                  refine lx_rd 28 (.int .u32 y) (by kernel_rfl) (fun _ _ d _ _ h => by cases d <;> exact h) (by kernel_rfl) HSZ rfl rfl rfl (fun w' hS => ?hM28) ?_
                  case hM28 => have hq := (hS.cell (p := ⟨g7, k, none⟩) hl7).trans cw; first | (go_simp; rfl) | (go_simp; done) | (go_simp; exact idx_ok (by omega) (by omega)) | (go_simp; exact wi64' (by omega) (by omega) (by omega)) | (go_simp; intro hh; exfalso; omega)
                  simp only [List.setIfInBounds_toArray, List.set_cons_zero, List.set_cons_succ]
                  refine lx_one 3 (by kernel_rfl) (stepT_call 57 #[.int .u32 s.e, .int .i64 6] rfl rfl rfl ?m3 ?_)
                  case m3 => first | (go_simp; rfl) | go_simp
                  refine (ror_any s.e 6 _ (by omega)).mono ?_
                  rintro e mu3 ⟨rfl, d3, hd3⟩
                  have mS3 : Below W.heap.size W mu3 := by rw [hd3]; exact below_drewN HSZ _
                  clear hd3
                  refine ⟨_, rfl, fun _ => mS3, ?_⟩
                  simp only [List.setIfInBounds_toArray, List.set_cons_zero, List.set_cons_succ]
                  refine lx_one 5 (by kernel_rfl) (stepT_call 57 #[.int .u32 s.e, .int .i64 11] rfl rfl rfl ?m5 ?_)
                  case m5 => first | (go_simp; rfl) | go_simp
                  refine (ror_any s.e 11 _ (by omega)).mono ?_
                  rintro e mu5 ⟨rfl, d5, hd5⟩
                  have mS5 : Below W.heap.size W mu5 := by rw [hd5]; exact below_drewN mS3 _
                  clear hd5
                  refine ⟨_, rfl, fun _ => mS5, ?_⟩
                  simp only [List.setIfInBounds_toArray, List.set_cons_zero, List.set_cons_succ]
                  refine lx_rd 6 (.int .u32 (xr (rr s.e 6) (rr s.e 11))) (by kernel_rfl) (fun _ _ d _ _ h => by cases d <;> exact h) (by kernel_rfl) mS5 rfl rfl rfl (fun w' hS => ?hN6) ?_
                  case hN6 => first | (go_simp; rfl) | (go_simp; done) | (go_simp; exact idx_ok (by omega) (by omega)) | (go_simp; exact wi64' (by omega) (by omega) (by omega)) | (go_simp; intro hh; exfalso; omega)
                  simp only [List.setIfInBounds_toArray, List.set_cons_zero, List.set_cons_succ]
                  refine lx_one 8 (by kernel_rfl) (stepT_call 57 #[.int .u32 s.e, .int .i64 25] rfl rfl rfl ?m8 ?_)
                  case m8 => first | (go_simp; rfl) | go_simp
                  refine (ror_any s.e 25 _ (by omega)).mono ?_
                  rintro e mu8 ⟨rfl, d8, hd8⟩
                  have mS8 : Below W.heap.size W mu8 := by rw [hd8]; exact below_drewN mS5 _
                  clear hd8
                  refine ⟨_, rfl, fun _ => mS8, ?_⟩
                  simp only [List.setIfInBounds_toArray, List.set_cons_zero, List.set_cons_succ]
                  refine lx_rd 9 (.int .u32 (wS1 s.e)) (by kernel_rfl) (fun _ _ d _ _ h => by cases d <;> exact h) (by kernel_rfl) mS8 rfl rfl rfl (fun w' hS => ?hO9) ?_
                  case hO9 => first | (go_simp; rfl) | (go_simp; done) | (go_simp; exact idx_ok (by omega) (by omega)) | (go_simp; exact wi64' (by omega) (by omega) (by omega)) | (go_simp; intro hh; exfalso; omega)
                  simp only [List.setIfInBounds_toArray, List.set_cons_zero, List.set_cons_succ]
                  refine lx_rd 10 (.int .u32 (ad s.h (wS1 s.e))) (by kernel_rfl) (fun _ _ d _ _ h => by cases d <;> exact h) (by kernel_rfl) mS8 rfl rfl rfl (fun w' hS => ?hO10) ?_
                  case hO10 => first | (go_simp; rfl) | (go_simp; done) | (go_simp; exact idx_ok (by omega) (by omega)) | (go_simp; exact wi64' (by omega) (by omega) (by omega)) | (go_simp; intro hh; exfalso; omega)
                  simp only [List.setIfInBounds_toArray, List.set_cons_zero, List.set_cons_succ]
                  refine lx_rd 21 (.int .u32 (ad (ad s.h (wS1 s.e)) (wch s.e s.f s.g))) (by kernel_rfl) (fun _ _ d _ _ h => by cases d <;> exact h) (by kernel_rfl) mS8 rfl rfl rfl (fun w' hS => ?hO21) ?_
                  case hO21 => first | (go_simp; rfl) | (go_simp; done) | (go_simp; exact idx_ok (by omega) (by omega)) | (go_simp; exact wi64' (by omega) (by omega) (by omega)) | (go_simp; intro hh; exfalso; omega)
                  simp only [List.setIfInBounds_toArray, List.set_cons_zero, List.set_cons_succ]
                  refine lx_rd 25 (.int .u32 (ad (ad (ad s.h (wS1 s.e)) (wch s.e s.f s.g)) x)) (by kernel_rfl) (fun _ _ d _ _ h => by cases d <;> exact h) (by kernel_rfl) mS8 rfl rfl rfl (fun w' hS => ?hO25) ?_
                  case hO25 => first | (go_simp; rfl) | (go_simp; done) | (go_simp; exact idx_ok (by omega) (by omega)) | (go_simp; exact wi64' (by omega) (by omega) (by omega)) | (go_simp; intro hh; exfalso; omega)
                  simp only [List.setIfInBounds_toArray, List.set_cons_zero, List.set_cons_succ]
                  refine lx_rd 29 (.int .u32 (t1of s x y)) (by kernel_rfl) (fun _ _ d _ _ h => by cases d <;> exact h) (by kernel_rfl) mS8 rfl rfl rfl (fun w' hS => ?hO29) ?_
                  case hO29 => first | (go_simp; rfl) | (go_simp; done) | (go_simp; exact idx_ok (by omega) (by omega)) | (go_simp; exact wi64' (by omega) (by omega) (by omega)) | (go_simp; intro hh; exfalso; omega)
                  simp only [List.setIfInBounds_toArray, List.set_cons_zero, List.set_cons_succ]
                  refine lx_rd 30 (.int .u32 (t1of s x y)) (by kernel_rfl) (fun _ _ d _ _ h => by cases d <;> exact h) (by kernel_rfl) mS8 rfl rfl rfl (fun w' hS => ?hO30) ?_
                  case hO30 => first | (go_simp; rfl) | (go_simp; done) | (go_simp; exact idx_ok (by omega) (by omega)) | (go_simp; exact wi64' (by omega) (by omega) (by omega)) | (go_simp; intro hh; exfalso; omega)
                  simp only [List.setIfInBounds_toArray, List.set_cons_zero, List.set_cons_succ]
                  refine lx_nil (by kernel_rfl) ?_
                  obtain ⟨T1, HT1⟩ : ∃ T, Hid (t1of s x y = T) := ⟨_, rfl⟩
                  rw [HT1.out]
                  have hcs2 := hcs.below mS8 hcs.lt
                  have HM2 := HM'.below mS8
                  have A72 := A7'.below mS8 A7'.lt
                  have hwz2 : w7.heap.size ≤ mu8.heap.size := by have := mS8.size; omega
                  have c0 := (mS8.cell (p := ⟨g13, 0, none⟩) hl13).trans c0
                  have c1 := (mS8.cell (p := ⟨g13, 1, none⟩) hl13).trans c1
                  have c2 := (mS8.cell (p := ⟨g13, 2, none⟩) hl13).trans c2
                  have c3 := (mS8.cell (p := ⟨g13, 3, none⟩) hl13).trans c3
                  have c5' := (mS8.cell (p := ⟨g13, 5, none⟩) hl13).trans c5'
                  have c6 := (mS8.cell (p := ⟨g13, 6, none⟩) hl13).trans c6
                  clear hcs HM' A7' hwz' c7 ck cw hl13 hl7 hl4 HSZ mS3 mS5 mS8 HW
                  go_wp2_with fail
                  have hcs : Ar mu8.drew g13 89 .u32 s.l := hcs2
                  have HM' : RfW w g2 g3 g4 gP n5 c5 hs P mu8.drew := HM2.drewN 1
                  have A7' : Ar mu8.drew g7 98 .u32 ws := A72
                  have hwz' : w7.heap.size ≤ mu8.drew.heap.size := hwz2
                  have c0 : mu8.drew.cell? ⟨g13, 0, none⟩ = _ := c0
                  have c1 : mu8.drew.cell? ⟨g13, 1, none⟩ = _ := c1
                  have c2 : mu8.drew.cell? ⟨g13, 2, none⟩ = _ := c2
                  have c3 : mu8.drew.cell? ⟨g13, 3, none⟩ = _ := c3
                  have c5' : mu8.drew.cell? ⟨g13, 5, none⟩ = _ := c5'
                  have c6 : mu8.drew.cell? ⟨g13, 6, none⟩ = _ := c6
                  clear hcs2 HM2 A72 hwz2
                  refine wp_region_lx (fun w' => Below mu8.drew.heap.size mu8.drew w') [] 25 (by kernel_rfl) (by kernel_rfl) ?_
                  obtain ⟨W, HW⟩ : ∃ W, Hid (mu8.drew = W) := ⟨_, rfl⟩
                  rw [HW.out] at hcs HM' A7' hwz' c0 c1 c2 c3 c5' c6 ⊢
                  have HSZ : Below W.heap.size W W := Below.refl _ _
                  have hl13 : g13 < W.heap.size := hcs.lt
                  refine lx_rd 0 ?vQ0 (by kernel_rfl) (fun _ _ d _ _ h => by cases d <;> exact h) (by kernel_rfl) HSZ rfl rfl rfl (fun w' hS => ?hQ0) ?_
                  case hQ0 => first | (go_simp; rfl) | (go_simp; done) | (go_simp; exact idx_ok (by omega) (by omega)) | (go_simp; exact wi64' (by omega) (by omega) (by omega)) | (go_simp; intro hh; exfalso; omega)
                  simp only [List.setIfInBounds_toArray, List.set_cons_zero, List.set_cons_succ]
                  refine lx_rd 2 ?vQ2 (by kernel_rfl) (fun _ _ d _ _ h => by cases d <;> exact h) (by kernel_rfl) HSZ rfl rfl rfl (fun w' hS => ?hQ2) ?_
                  case hQ2 => first | (go_simp; rfl) | (go_simp; done) | (go_simp; exact idx_ok (by omega) (by omega)) | (go_simp; exact wi64' (by omega) (by omega) (by omega)) | (go_simp; intro hh; exfalso; omega)
                  simp only [List.setIfInBounds_toArray, List.set_cons_zero, List.set_cons_succ]
                  refine lx_rd 5 ?vQ5 (by kernel_rfl) (fun _ _ d _ _ h => by cases d <;> exact h) (by kernel_rfl) HSZ rfl rfl rfl (fun w' hS => ?hQ5) ?_
                  case hQ5 => first | (go_simp; rfl) | (go_simp; done) | (go_simp; exact idx_ok (by omega) (by omega)) | (go_simp; exact wi64' (by omega) (by omega) (by omega)) | (go_simp; intro hh; exfalso; omega)
                  simp only [List.setIfInBounds_toArray, List.set_cons_zero, List.set_cons_succ]
                  refine lx_rd 8 ?vQ8 (by kernel_rfl) (fun _ _ d _ _ h => by cases d <;> exact h) (by kernel_rfl) HSZ rfl rfl rfl (fun w' hS => ?hQ8) ?_
                  case hQ8 => first | (go_simp; rfl) | (go_simp; done) | (go_simp; exact idx_ok (by omega) (by omega)) | (go_simp; exact wi64' (by omega) (by omega) (by omega)) | (go_simp; intro hh; exfalso; omega)
                  simp only [List.setIfInBounds_toArray, List.set_cons_zero, List.set_cons_succ]
                  refine lx_rd 9 (.pointer (some ⟨g13, 1, none⟩)) (by kernel_rfl) (fun _ _ d _ _ h => by cases d <;> exact h) (by kernel_rfl) HSZ rfl rfl rfl (fun w' hS => ?hQ9) ?_
                  case hQ9 => first | (go_simp; rfl) | (go_simp; done) | (go_simp; exact idx_ok (by omega) (by omega)) | (go_simp; exact wi64' (by omega) (by omega) (by omega)) | (go_simp; intro hh; exfalso; omega)
                  simp only [List.setIfInBounds_toArray, List.set_cons_zero, List.set_cons_succ]
                  refine lx_rd 10 (.int .u32 s.b) (by kernel_rfl) (fun _ _ d _ _ h => by cases d <;> exact h) (by kernel_rfl) HSZ rfl rfl rfl (fun w' hS => ?hQ10) ?_
                  case hQ10 => have hq := (hS.cell (p := ⟨g13, 1, none⟩) hl13).trans c1; first | (go_simp; rfl) | (go_simp; done) | (go_simp; exact idx_ok (by omega) (by omega)) | (go_simp; exact wi64' (by omega) (by omega) (by omega)) | (go_simp; intro hh; exfalso; omega)
                  simp only [List.setIfInBounds_toArray, List.set_cons_zero, List.set_cons_succ]
                  refine lx_rd 11 (.int .u32 (bits .and .u32 s.a s.b)) (by kernel_rfl) (fun _ _ d _ _ h => by cases d <;> exact h) (by kernel_rfl) HSZ rfl rfl rfl (fun w' hS => ?hQ11) ?_
                  case hQ11 => first | (go_simp; rfl) | (go_simp; done) | (go_simp; exact idx_ok (by omega) (by omega)) | (go_simp; exact wi64' (by omega) (by omega) (by omega)) | (go_simp; intro hh; exfalso; omega)
                  simp only [List.setIfInBounds_toArray, List.set_cons_zero, List.set_cons_succ]
                  refine lx_rd 12 ?vQ12 (by kernel_rfl) (fun _ _ d _ _ h => by cases d <;> exact h) (by kernel_rfl) HSZ rfl rfl rfl (fun w' hS => ?hQ12) ?_
                  case hQ12 => first | (go_simp; rfl) | (go_simp; done) | (go_simp; exact idx_ok (by omega) (by omega)) | (go_simp; exact wi64' (by omega) (by omega) (by omega)) | (go_simp; intro hh; exfalso; omega)
                  simp only [List.setIfInBounds_toArray, List.set_cons_zero, List.set_cons_succ]
                  refine lx_rd 13 (.pointer (some ⟨g13, 2, none⟩)) (by kernel_rfl) (fun _ _ d _ _ h => by cases d <;> exact h) (by kernel_rfl) HSZ rfl rfl rfl (fun w' hS => ?hQ13) ?_
                  case hQ13 => first | (go_simp; rfl) | (go_simp; done) | (go_simp; exact idx_ok (by omega) (by omega)) | (go_simp; exact wi64' (by omega) (by omega) (by omega)) | (go_simp; intro hh; exfalso; omega)
                  simp only [List.setIfInBounds_toArray, List.set_cons_zero, List.set_cons_succ]
                  refine lx_rd 14 (.int .u32 s.c) (by kernel_rfl) (fun _ _ d _ _ h => by cases d <;> exact h) (by kernel_rfl) HSZ rfl rfl rfl (fun w' hS => ?hQ14) ?_
                  case hQ14 => have hq := (hS.cell (p := ⟨g13, 2, none⟩) hl13).trans c2; first | (go_simp; rfl) | (go_simp; done) | (go_simp; exact idx_ok (by omega) (by omega)) | (go_simp; exact wi64' (by omega) (by omega) (by omega)) | (go_simp; intro hh; exfalso; omega)
                  simp only [List.setIfInBounds_toArray, List.set_cons_zero, List.set_cons_succ]
                  refine lx_rd 15 (.int .u32 (bits .and .u32 s.a s.c)) (by kernel_rfl) (fun _ _ d _ _ h => by cases d <;> exact h) (by kernel_rfl) HSZ rfl rfl rfl (fun w' hS => ?hQ15) ?_
                  case hQ15 => first | (go_simp; rfl) | (go_simp; done) | (go_simp; exact idx_ok (by omega) (by omega)) | (go_simp; exact wi64' (by omega) (by omega) (by omega)) | (go_simp; intro hh; exfalso; omega)
                  simp only [List.setIfInBounds_toArray, List.set_cons_zero, List.set_cons_succ]
                  refine lx_rd 16 (.int .u32 (xr (bits .and .u32 s.a s.b) (bits .and .u32 s.a s.c))) (by kernel_rfl) (fun _ _ d _ _ h => by cases d <;> exact h) (by kernel_rfl) HSZ rfl rfl rfl (fun w' hS => ?hQ16) ?_
                  case hQ16 => first | (go_simp; rfl) | (go_simp; done) | (go_simp; exact idx_ok (by omega) (by omega)) | (go_simp; exact wi64' (by omega) (by omega) (by omega)) | (go_simp; intro hh; exfalso; omega)
                  simp only [List.setIfInBounds_toArray, List.set_cons_zero, List.set_cons_succ]
                  refine lx_rd 17 (.pointer (some ⟨g13, 1, none⟩)) (by kernel_rfl) (fun _ _ d _ _ h => by cases d <;> exact h) (by kernel_rfl) HSZ rfl rfl rfl (fun w' hS => ?hQ17) ?_
                  case hQ17 => first | (go_simp; rfl) | (go_simp; done) | (go_simp; exact idx_ok (by omega) (by omega)) | (go_simp; exact wi64' (by omega) (by omega) (by omega)) | (go_simp; intro hh; exfalso; omega)
                  simp only [List.setIfInBounds_toArray, List.set_cons_zero, List.set_cons_succ]
                  refine lx_rd 18 (.int .u32 s.b) (by kernel_rfl) (fun _ _ d _ _ h => by cases d <;> exact h) (by kernel_rfl) HSZ rfl rfl rfl (fun w' hS => ?hQ18) ?_
                  case hQ18 => have hq := (hS.cell (p := ⟨g13, 1, none⟩) hl13).trans c1; first | (go_simp; rfl) | (go_simp; done) | (go_simp; exact idx_ok (by omega) (by omega)) | (go_simp; exact wi64' (by omega) (by omega) (by omega)) | (go_simp; intro hh; exfalso; omega)
                  simp only [List.setIfInBounds_toArray, List.set_cons_zero, List.set_cons_succ]
                  refine lx_rd 19 (.pointer (some ⟨g13, 2, none⟩)) (by kernel_rfl) (fun _ _ d _ _ h => by cases d <;> exact h) (by kernel_rfl) HSZ rfl rfl rfl (fun w' hS => ?hQ19) ?_
                  case hQ19 => first | (go_simp; rfl) | (go_simp; done) | (go_simp; exact idx_ok (by omega) (by omega)) | (go_simp; exact wi64' (by omega) (by omega) (by omega)) | (go_simp; intro hh; exfalso; omega)
                  simp only [List.setIfInBounds_toArray, List.set_cons_zero, List.set_cons_succ]
                  refine lx_rd 20 (.int .u32 s.c) (by kernel_rfl) (fun _ _ d _ _ h => by cases d <;> exact h) (by kernel_rfl) HSZ rfl rfl rfl (fun w' hS => ?hQ20) ?_
                  case hQ20 => have hq := (hS.cell (p := ⟨g13, 2, none⟩) hl13).trans c2; first | (go_simp; rfl) | (go_simp; done) | (go_simp; exact idx_ok (by omega) (by omega)) | (go_simp; exact wi64' (by omega) (by omega) (by omega)) | (go_simp; intro hh; exfalso; omega)
                  simp only [List.setIfInBounds_toArray, List.set_cons_zero, List.set_cons_succ]
                  refine lx_rd 21 (.int .u32 (bits .and .u32 s.b s.c)) (by kernel_rfl) (fun _ _ d _ _ h => by cases d <;> exact h) (by kernel_rfl) HSZ rfl rfl rfl (fun w' hS => ?hQ21) ?_
                  case hQ21 => first | (go_simp; rfl) | (go_simp; done) | (go_simp; exact idx_ok (by omega) (by omega)) | (go_simp; exact wi64' (by omega) (by omega) (by omega)) | (go_simp; intro hh; exfalso; omega)
                  simp only [List.setIfInBounds_toArray, List.set_cons_zero, List.set_cons_succ]
                  refine lx_rd 22 (.int .u32 (wmaj s.a s.b s.c)) (by kernel_rfl) (fun _ _ d _ _ h => by cases d <;> exact h) (by kernel_rfl) HSZ rfl rfl rfl (fun w' hS => ?hQ22) ?_
                  case hQ22 => first | (go_simp; rfl) | (go_simp; done) | (go_simp; exact idx_ok (by omega) (by omega)) | (go_simp; exact wi64' (by omega) (by omega) (by omega)) | (go_simp; intro hh; exfalso; omega)
                  simp only [List.setIfInBounds_toArray, List.set_cons_zero, List.set_cons_succ]
                  refine lx_one 1 (by kernel_rfl) (stepT_call 57 #[.int .u32 s.a, .int .i64 2] rfl rfl rfl ?n1 ?_)
                  case n1 => first | (go_simp; rfl) | go_simp
                  refine (ror_any s.a 2 _ (by omega)).mono ?_
                  rintro e nu1 ⟨rfl, d1, hd1⟩
                  have nS1 : Below W.heap.size W nu1 := by rw [hd1]; exact below_drewN HSZ _
                  clear hd1
                  refine ⟨_, rfl, fun _ => nS1, ?_⟩
                  simp only [List.setIfInBounds_toArray, List.set_cons_zero, List.set_cons_succ]
                  refine lx_one 3 (by kernel_rfl) (stepT_call 57 #[.int .u32 s.a, .int .i64 13] rfl rfl rfl ?n3 ?_)
                  case n3 => first | (go_simp; rfl) | go_simp
                  refine (ror_any s.a 13 _ (by omega)).mono ?_
                  rintro e nu3 ⟨rfl, d3, hd3⟩
                  have nS3 : Below W.heap.size W nu3 := by rw [hd3]; exact below_drewN nS1 _
                  clear hd3
                  refine ⟨_, rfl, fun _ => nS3, ?_⟩
                  simp only [List.setIfInBounds_toArray, List.set_cons_zero, List.set_cons_succ]
                  refine lx_rd 4 (.int .u32 (xr (rr s.a 2) (rr s.a 13))) (by kernel_rfl) (fun _ _ d _ _ h => by cases d <;> exact h) (by kernel_rfl) nS3 rfl rfl rfl (fun w' hS => ?hR4) ?_
                  case hR4 => first | (go_simp; rfl) | (go_simp; done) | (go_simp; exact idx_ok (by omega) (by omega)) | (go_simp; exact wi64' (by omega) (by omega) (by omega)) | (go_simp; intro hh; exfalso; omega)
                  simp only [List.setIfInBounds_toArray, List.set_cons_zero, List.set_cons_succ]
                  refine lx_one 6 (by kernel_rfl) (stepT_call 57 #[.int .u32 s.a, .int .i64 22] rfl rfl rfl ?n6 ?_)
                  case n6 => first | (go_simp; rfl) | go_simp
                  refine (ror_any s.a 22 _ (by omega)).mono ?_
                  rintro e nu6 ⟨rfl, d6, hd6⟩
                  have nS6 : Below W.heap.size W nu6 := by rw [hd6]; exact below_drewN nS3 _
                  clear hd6
                  refine ⟨_, rfl, fun _ => nS6, ?_⟩
                  simp only [List.setIfInBounds_toArray, List.set_cons_zero, List.set_cons_succ]
                  refine lx_rd 7 (.int .u32 (wS0 s.a)) (by kernel_rfl) (fun _ _ d _ _ h => by cases d <;> exact h) (by kernel_rfl) nS6 rfl rfl rfl (fun w' hS => ?hT7) ?_
                  case hT7 => first | (go_simp; rfl) | (go_simp; done) | (go_simp; exact idx_ok (by omega) (by omega)) | (go_simp; exact wi64' (by omega) (by omega) (by omega)) | (go_simp; intro hh; exfalso; omega)
                  simp only [List.setIfInBounds_toArray, List.set_cons_zero, List.set_cons_succ]
                  refine lx_rd 23 (.int .u32 (t2of s)) (by kernel_rfl) (fun _ _ d _ _ h => by cases d <;> exact h) (by kernel_rfl) nS6 rfl rfl rfl (fun w' hS => ?hT23) ?_
                  case hT23 => first | (go_simp; rfl) | (go_simp; done) | (go_simp; exact idx_ok (by omega) (by omega)) | (go_simp; exact wi64' (by omega) (by omega) (by omega)) | (go_simp; intro hh; exfalso; omega)
                  simp only [List.setIfInBounds_toArray, List.set_cons_zero, List.set_cons_succ]
                  refine lx_rd 24 (.int .u32 (t2of s)) (by kernel_rfl) (fun _ _ d _ _ h => by cases d <;> exact h) (by kernel_rfl) nS6 rfl rfl rfl (fun w' hS => ?hT24) ?_
                  case hT24 => first | (go_simp; rfl) | (go_simp; done) | (go_simp; exact idx_ok (by omega) (by omega)) | (go_simp; exact wi64' (by omega) (by omega) (by omega)) | (go_simp; intro hh; exfalso; omega)
                  simp only [List.setIfInBounds_toArray, List.set_cons_zero, List.set_cons_succ]
                  refine lx_nil (by kernel_rfl) ?_
                  obtain ⟨T2, HT2⟩ : ∃ T, Hid (t2of s = T) := ⟨_, rfl⟩
                  rw [HT2.out]
                  have hcs2 := hcs.below nS6 hcs.lt
                  have HM2 := HM'.below nS6
                  have A72 := A7'.below nS6 A7'.lt
                  have hwz2 : w7.heap.size ≤ nu6.heap.size := by have := nS6.size; omega
                  have c0 := (nS6.cell (p := ⟨g13, 0, none⟩) hl13).trans c0
                  have c1 := (nS6.cell (p := ⟨g13, 1, none⟩) hl13).trans c1
                  have c2 := (nS6.cell (p := ⟨g13, 2, none⟩) hl13).trans c2
                  have c3 := (nS6.cell (p := ⟨g13, 3, none⟩) hl13).trans c3
                  have c5' := (nS6.cell (p := ⟨g13, 5, none⟩) hl13).trans c5'
                  have c6 := (nS6.cell (p := ⟨g13, 6, none⟩) hl13).trans c6
                  have hstep : (s.step x y).l = [ad T1 T2, s.a, s.b, s.c, ad s.d T1, s.e, s.f, s.g] := by rw [← HT1.out, ← HT2.out]; rfl
                  clear hcs HM' A7' hwz' hl13 HSZ nS1 nS3 nS6 HW
                  go_wp2_with (refine wp_store_ar rfl 89 (.tmp 13) (.tmp 178) rfl g13 rfl .u32 [ad T1 T2, s.a, s.b, s.c, ad s.d T1, s.e, s.f, s.g] rfl 89 _ hcs2 rfl hi44 ?_; intro wn An hkn hsn)
                  have HMn := HM2.keep hkn N13
                  have A7n := A72.keep hkn n713
                  have hwn : w7.heap.size ≤ wn.heap.size := by omega
                  rw [← hstep] at An
                  clear hcs2 HM2 A72 hwz2 c0 c1 c2 c3 c5' c6 hkn hsn hstep
                  go_roundw
                  case rel => exact ⟨k + 1, s.step x y, by omega, by go_num, (by show rnds _ _ _ (k + 1) = _; unfold rnds; rw [HR.out, HXK.out, HYW.out]), An, A7n, HMn, hwn⟩
                  case measure => simp [intOf]; omega
                · obtain rfl : k = 64 := by omega
                  have hkz2 : ¬ ((64 : Nat) : Int) < 64 := by omega
                  have HE : Hid (fin8 hs s.l 8 = runB P h0s (q + 1)) := by
                    show fin8 hs s.l 8 = mix (runB P h0s q) ((P.drop (64 * q)).take 64)
                    rw [HHS.out, HBL.out]; unfold mix; rw [HWS.out, HS0.out, HR.out]
                  have HF := fin8_len hs s.l hhl
                  clear HR A7 hwsl
                  go_wp2_with fail
                  go_loopw [19] (fun i wr => ∃ k : Nat, k ≤ 8 ∧ i = .int .i64 k ∧ Ar wr g13 89 .u32 s.l ∧ RfW w g2 g3 g4 gP n5 c5 (fin8 hs s.l k) P wr ∧ w7.heap.size ≤ wr.heap.size) (fun i _ => 8 - (intOf i).toNat)
                  case atStart => exact ⟨0, by omega, rfl, A13, HM, hwz⟩
                  case round =>
                    clear A13 HM hwz
                    obtain ⟨i, hi, rfl, A13, HM, hwz⟩ := hrel
                    by_cases hi8 : i < 8
                    · have hiz : (i : Int) < 8 := by omega
                      go_wp2_with fail
                      have A13' : Ar wr.drew g13 89 .u32 s.l := A13
                      have HM' : RfW w g2 g3 g4 gP n5 c5 (fin8 hs s.l i) P wr.drew := HM.drewN 1
                      have hwz' : w7.heap.size ≤ wr.drew.heap.size := hwz
                      have c3 := HM'.h.cell (j := i) (by rw [HF]; exact hi8)
                      have cs := A13'.cell (j := i) hi8
                      have hf3 := HM'.h.fz i
                      obtain ⟨x, HX⟩ : ∃ x, Hid (s.l.getD i 0 = x) := ⟨_, rfl⟩
                      obtain ⟨y, HY⟩ : ∃ x, Hid ((fin8 hs s.l i).getD i 0 = x) := ⟨_, rfl⟩
                      rw [HX.out] at cs
                      rw [HY.out] at c3
                      clear A13 HM hwz
                      refine wp_region_lx (fun w' => w' = wr.drew) [9] 10 (by kernel_rfl) (by kernel_rfl) ?_
                      obtain ⟨W, HW⟩ : ∃ W, Hid (wr.drew = W) := ⟨_, rfl⟩
                      rw [HW.out] at A13' HM' hwz' c3 cs hf3 ⊢
                      have HSW : W = W := rfl
                      refine lx_rd 0 ?vF0 (by kernel_rfl) (fun _ _ d _ _ h => by cases d <;> exact h) (by kernel_rfl) HSW rfl rfl rfl (fun w' hS => ?hF0) ?_
                      case hF0 => first | (go_simp; rfl) | (go_simp; done) | (go_simp; exact idx_ok (by omega) (by omega)) | (go_simp; exact wi64' (by omega) (by omega) (by omega)) | (go_simp; intro hh; exfalso; omega)
                      simp only [List.setIfInBounds_toArray, List.set_cons_zero, List.set_cons_succ]
                      refine lx_rd 1 ?vF1 (by kernel_rfl) (fun _ _ d _ _ h => by cases d <;> exact h) (by kernel_rfl) HSW rfl rfl rfl (fun w' hS => ?hF1) ?_
                      case hF1 => first | (go_simp; rfl) | (go_simp; done) | (go_simp; exact idx_ok (by omega) (by omega)) | (go_simp; exact wi64' (by omega) (by omega) (by omega)) | (go_simp; intro hh; exfalso; omega)
                      simp only [List.setIfInBounds_toArray, List.set_cons_zero, List.set_cons_succ]
                      refine lx_rd 2 (.pointer (some ⟨g3, i, none⟩)) (by kernel_rfl) (fun _ _ d _ _ h => by cases d <;> exact h) (by kernel_rfl) HSW rfl rfl rfl (fun w' hS => ?hF2) ?_
                      case hF2 => first | (go_simp; rfl) | (go_simp; done) | (go_simp; exact idx_ok (by omega) (by omega)) | (go_simp; exact wi64' (by omega) (by omega) (by omega)) | (go_simp; intro hh; exfalso; omega)
                      simp only [List.setIfInBounds_toArray, List.set_cons_zero, List.set_cons_succ]
                      refine lx_rd 3 (.int .u32 y) (by kernel_rfl) (fun _ _ d _ _ h => by cases d <;> exact h) (by kernel_rfl) HSW rfl rfl rfl (fun w' hS => ?hF3) ?_
                      case hF3 => subst hS; first | (go_simp; rfl) | (go_simp; done) | (go_simp; exact idx_ok (by omega) (by omega)) | (go_simp; exact wi64' (by omega) (by omega) (by omega)) | (go_simp; intro hh; exfalso; omega)
                      simp only [List.setIfInBounds_toArray, List.set_cons_zero, List.set_cons_succ]
                      refine lx_rd 4 ?vF4 (by kernel_rfl) (fun _ _ d _ _ h => by cases d <;> exact h) (by kernel_rfl) HSW rfl rfl rfl (fun w' hS => ?hF4) ?_
                      case hF4 => first | (go_simp; rfl) | (go_simp; done) | (go_simp; exact idx_ok (by omega) (by omega)) | (go_simp; exact wi64' (by omega) (by omega) (by omega)) | (go_simp; intro hh; exfalso; omega)
                      simp only [List.setIfInBounds_toArray, List.set_cons_zero, List.set_cons_succ]
                      refine lx_rd 5 (.pointer (some ⟨g13, i, none⟩)) (by kernel_rfl) (fun _ _ d _ _ h => by cases d <;> exact h) (by kernel_rfl) HSW rfl rfl rfl (fun w' hS => ?hF5) ?_
                      case hF5 => first | (go_simp; rfl) | (go_simp; done) | (go_simp; exact idx_ok (by omega) (by omega)) | (go_simp; exact wi64' (by omega) (by omega) (by omega)) | (go_simp; intro hh; exfalso; omega)
                      simp only [List.setIfInBounds_toArray, List.set_cons_zero, List.set_cons_succ]
                      refine lx_rd 6 (.int .u32 x) (by kernel_rfl) (fun _ _ d _ _ h => by cases d <;> exact h) (by kernel_rfl) HSW rfl rfl rfl (fun w' hS => ?hF6) ?_
                      case hF6 => subst hS; first | (go_simp; rfl) | (go_simp; done) | (go_simp; exact idx_ok (by omega) (by omega)) | (go_simp; exact wi64' (by omega) (by omega) (by omega)) | (go_simp; intro hh; exfalso; omega)
                      simp only [List.setIfInBounds_toArray, List.set_cons_zero, List.set_cons_succ]
                      refine lx_rd 7 (.int .u32 (ad y x)) (by kernel_rfl) (fun _ _ d _ _ h => by cases d <;> exact h) (by kernel_rfl) HSW rfl rfl rfl (fun w' hS => ?hF7) ?_
                      case hF7 => first | (go_simp; rfl) | (go_simp; done) | (go_simp; exact idx_ok (by omega) (by omega)) | (go_simp; exact wi64' (by omega) (by omega) (by omega)) | (go_simp; intro hh; exfalso; omega)
                      simp only [List.setIfInBounds_toArray, List.set_cons_zero, List.set_cons_succ]
                      refine lx_rd 8 (.pointer (some ⟨g3, i, none⟩)) (by kernel_rfl) (fun _ _ d _ _ h => by cases d <;> exact h) (by kernel_rfl) HSW rfl rfl rfl (fun w' hS => ?hF8) ?_
                      case hF8 => first | (go_simp; rfl) | (go_simp; done) | (go_simp; exact idx_ok (by omega) (by omega)) | (go_simp; exact wi64' (by omega) (by omega) (by omega)) | (go_simp; intro hh; exfalso; omega)
                      simp only [List.setIfInBounds_toArray, List.set_cons_zero, List.set_cons_succ]
                      refine lx_one 9 (by kernel_rfl) (stepT_store (w' := W.setCell ⟨g3, i, none⟩ (.int .u32 (ad y x))) rfl rfl rfl ?r9 (fun h => by cases h) ?_)
                      case r9 => first | (go_simp; rfl) | go_simp
                      refine lx_nil (by kernel_rfl) ?_
                      have A3n : Ar (W.setCell ⟨g3, i, none⟩ (.int .u32 (ad y x))) g3 89 .u32 (fin8 hs s.l (i + 1)) := by
                        have := HM'.h.set i (ad y x)
                        unfold fin8; rw [HX.out, HY.out]; exact this
                      have hkc := keep_cell (w := W) (g := g3) (i := i) (v := .int .u32 (ad y x))
                      have HMn := HM'.seth hkc A3n HN.out hG3
                      have A13n := A13'.keep hkc (fun e => N13.2.1 e.symm)
                      have hwn : w7.heap.size ≤ (W.setCell ⟨g3, i, none⟩ (.int .u32 (ad y x))).heap.size := by simpa [World.setCell] using hwz'
                      clear hkc A3n
                      generalize W.setCell ⟨g3, i, none⟩ (.int .u32 (ad y x)) = Wn at A13n HMn hwn
                      clear A13' HM' hwz' c3 cs hf3 HSW HW HX HY
                      go_wp2_with fail
                      go_roundw
                      case rel => exact ⟨i + 1, by omega, by go_num, A13n, HMn, hwn⟩
                      case measure => simp [intOf]; omega
                    · obtain rfl : i = 8 := by omega
                      have hiz : ¬ ((8 : Nat) : Int) < 8 := by omega
                      rw [HE.out] at HM
                      clear A13 HF
                      go_wp2_with fail
                      go_roundw
                      case rel => exact ⟨q + 1, by omega, by rw [← HQ6.out]; go_num, HM, hwz⟩
                      case measure => simp [intOf]; omega
    · have hqe : q = N := by omega
      rw [hqe] at HM ⊢
      obtain ⟨q6, HQ6⟩ : ∃ q6, Hid (64 * N = q6) := ⟨_, rfl⟩
      rw [HQ6.out]
      have hql : ¬ (q6 : Int) < (n5 : Int) := by have := HPL.out; have := HQ6.out; omega
      obtain ⟨hs, HHS⟩ : ∃ hs, Hid (runB P h0s N = hs) := ⟨_, rfl⟩
      have hhl : hs.length = 8 := by rw [← HHS.out]; exact runB_len _ _ rfl _
      have HE : Hid (bo hs 32 = sha xs) := by
        show bo hs 32 = bo (runB (padT 0 xs) h0s ((padT 0 xs).length / 64)) 32
        rw [HP.out, HNN.out, HHS.out]
      rw [HHS.out] at HM
      clear hqN hq hqe
      go_wp2_with (refine wp_alloc_ar rfl 27 rfl .u8 (List.replicate 32 0) 32 Tryz.z23 ?_; intro g20 w8 A20 hg20 hb8)
      have HM8 := HM.below hb8
      have N20 : ¬ g2 = g20 ∧ ¬ g3 = g20 ∧ ¬ g4 = g20 ∧ ¬ gP = g20 ∧ w.heap.size ≤ g20 := by omega
      clear hb8 HM hg20 hwz
      go_loopw [21] (fun i wr => ∃ k : Nat, k ≤ 32 ∧ i = .int .i64 k ∧ Ar wr g20 27 .u8 (bo hs k) ∧ RfW w g2 g3 g4 gP n5 c5 hs P wr) (fun i _ => 32 - (intOf i).toNat)
      case atStart => exact ⟨0, by omega, rfl, A20, HM8⟩
      case round =>
        clear A20 HM8
        obtain ⟨k, hk, rfl, A20, HM⟩ := hrel
        by_cases hlt : k < 32
        · have hcl : (k : Int) < 32 := by omega
          have hc := HM.h.cell (j := k / 4) (by omega)
          have hc2 := A20.cell (j := k) (by rw [bo_len]; omega)
          have hf := A20.fz k
          obtain ⟨x, HX⟩ : ∃ x, Hid (hs.getD (k / 4) 0 = x) := ⟨_, rfl⟩
          obtain ⟨y, HY⟩ : ∃ x, Hid ((bo hs k).getD k 0 = x) := ⟨_, rfl⟩
          rw [HX.out] at hc
          rw [HY.out] at hc2
          clear hhl
          go_wp2
          refine ⟨⟨k + 1, by omega, by go_num, ?_, HM.keep keep_cell N20⟩, by simp [intOf]; omega⟩
          have := A20.set k (x / 2 ^ (24 - 8 * (k % 4)) % 256)
          unfold bo; rw [HX.out]; exact this
        · obtain rfl : k = 32 := by omega
          have hcl2 : ¬ ((32 : Nat) : Int) < 32 := by omega
          have hi23 := (size_of Tryz.u23).2
          have h32 := bo_len hs 32
          go_wp2_with (first
            | (refine wp_load_ar rfl 27 (.tmp 20) rfl _ rfl 27 .u8 (bo hs 32) 5 32 A20 Tryz.u23 h32 ?_)
            | (refine wp_store_ar rfl 27 (.tmp 2) (.tmp 208) rfl g2 rfl .u8 (bo hs 32) rfl 27 _ HM.o (by rw [h32]; rfl) (by rw [h32]; exact hi23) ?_; intro wE AE hkE hsE))
          refine bodyPost_ret (v := .agg (ic .u8 (bo hs 32)).toArray) (ar_results rfl _ _ g2 27 .u8 (bo hs 32) 5 32 rfl AE Tryz.u23 h32) rfl ⟨by rw [HE.out], ?_⟩
          exact HM.b.trans (hkE.below HM.b.size (fun j hj => by omega))
end Go.Proofs.YtmilcknboaefkaaGreatDoor
