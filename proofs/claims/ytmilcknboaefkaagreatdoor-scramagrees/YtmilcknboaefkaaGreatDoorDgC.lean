/- digest.wordsOf. -/
import Derived.Test.YtmilcknboaefkaaGreatDoorDgB
import Derived.Test.YtmilcknboaefkaaGreatDoorLate
set_option maxRecDepth 100000
namespace Go.Proofs.YtmilcknboaefkaaGreatDoor
open Go.RowKit

def wa (bl : List Int) : Nat → List Int
  | 0 => List.replicate 64 0
  | k + 1 => (wa bl k).set (k / 4) (bits .or .u32 ((wa bl k).getD (k / 4) 0 * 256 % 4294967296) (bl.getD k 0))
theorem wa_len (bl : List Int) : ∀ k, (wa bl k).length = 64
  | 0 => by simp [wa]
  | k + 1 => by simp [wa, wa_len bl k]
/-- The words that follow from the first sixteen. -/
def wb (ws : List Int) : Nat → List Int
  | 0 => ws
  | i + 1 => (wb ws i).set (i + 16) (ad (ad (ad (ws1 ((wb ws i).getD (i + 14) 0)) ((wb ws i).getD (i + 9) 0)) (ws0 ((wb ws i).getD (i + 1) 0))) ((wb ws i).getD i 0))
theorem wb_len (ws : List Int) (h : ws.length = 64) : ∀ i, (wb ws i).length = 64
  | 0 => h
  | i + 1 => by simp [wb, wb_len ws h i]
def words (bl : List Int) : List Int := wb (wa bl 64) 48
theorem words_len (bl : List Int) : (words bl).length = 64 := wb_len _ (wa_len bl 64) 48

set_option maxRecDepth 100000 in
set_option maxHeartbeats 800000 in
theorem wordsOf_any (bl : List Int) (w : World) (hl : bl.length = 64) (hB : Bd bl) :
    Calls Tryz.prog 96 #[.agg (ic .u8 bl).toArray] w fun e w' => e = .returned (.agg (ic .u32 (words bl)).toArray) ∧ Below w.heap.size w w' := by
  go_enter Tryz.func96, Tryz.ntmps96
  go_wp2_with (first
    | (refine wp_box_ar rfl 123 (.tmp 0) rfl .u8 bl rfl ?_; intro g1 w1 A1 hg1 hb1)
    | (refine wp_alloc_ar rfl 98 rfl .u32 (List.replicate 64 0) 64 Tryz.z46 ?_; intro g2 w2 A2 hg2 hb2)
    | (refine wp_load_ar rfl 123 (.tmp 1) rfl _ rfl 123 .u8 bl 5 64 (A1.below hb2 A1.lt) Tryz.u55 hl ?_))
  have hb := (hb1.trans (hb2.mono hb1.size))
  have hg : w.heap.size ≤ g2 := Nat.le_trans hb1.size hg2
  clear hg2
  go_loopw [8] (fun i wr => ∃ k : Nat, k ≤ 64 ∧ i = .int .i64 k ∧ Ar wr g2 98 .u32 (wa bl k) ∧ Below w.heap.size w wr) (fun i _ => 64 - (intOf i).toNat)
  case atStart => exact ⟨0, by omega, rfl, A2, hb⟩
  case round =>
    obtain ⟨k, hk, rfl, Ak, hbk⟩ := hrel
    have HB : Hid (Below w.heap.size w wr) := hbk
    clear hbk hb
    by_cases hlt : k < 64
    · have hix := fun w => run_index_ar (P := Tryz.prog) w 123 5 64 .u8 bl k (size_of Tryz.u55).1 (by kernel_rfl) (by kernel_rfl) hl hlt
      have hc := Ak.cell (j := k / 4) (by rw [wa_len]; omega)
      have hf := Ak.fz (k / 4)
      have hcb := hB.get k
      obtain ⟨c, HC⟩ : ∃ c, Hid (bl.getD k 0 = c) := ⟨_, rfl⟩
      obtain ⟨x, HX⟩ : ∃ x, Hid ((wa bl k).getD (k / 4) 0 = x) := ⟨_, rfl⟩
      rw [HC.out] at hix hcb
      rw [HX.out] at hc
      clear A1 A2 hg1 hb1 hb2 hB
      go_wp2
      go_roundw
      case rel =>
        refine ⟨k + 1, by omega, by go_num, ?_, HB.out.setCell (show w.heap.size ≤ g2 from hg) _⟩
        have := Ak.set (k / 4) (bits .or .u32 (x * 256 % 4294967296) c)
        unfold wa; rw [HX.out, HC.out]; exact this
      case measure => simp [intOf]; omega
    · obtain rfl : k = 64 := by omega
      have hwl := wb_len (wa bl 64) (wa_len bl 64)
      clear A1 A2 hg1 hb1 hb2 hB hlt hk
      go_wp2_with fail
      go_loopw [24] (fun i wr => ∃ k : Nat, k ≤ 48 ∧ i = .int .i64 k ∧ Ar wr g2 98 .u32 (wb (wa bl 64) k) ∧ Below w.heap.size w wr) (fun i _ => 48 - (intOf i).toNat)
      case atStart => exact ⟨0, by omega, rfl, Ak, HB.out⟩
      case round =>
        clear Ak HB
        obtain ⟨k, hk, rfl, Ak, hbk⟩ := hrel
        have HB : Hid (Below w.heap.size w wr) := hbk
        clear hbk
        by_cases hlt : k < 48
        · go_wp2_with fail
          have A' : Ar wr.drew g2 98 .u32 (wb (wa bl 64) k) := Ak
          have HB' : Hid (Below w.heap.size w wr.drew) := HB.out.drew
          have h14 := A'.cell (j := k + 14) (by rw [hwl]; omega)
          have h9 := A'.cell (j := k + 9) (by rw [hwl]; omega)
          have h1 := A'.cell (j := k + 1) (by rw [hwl]; omega)
          have h0 := A'.cell (j := k) (by rw [hwl]; omega)
          have h16 := A'.cell (j := k + 16) (by rw [hwl]; omega)
          have hf16 := A'.fz (k + 16)
          clear Ak HB hl hwl
          refine wp_region_lx (fun w' => w' = wr.drew) [23] 24 (by kernel_rfl) (by kernel_rfl) ?_
          obtain ⟨W, HW⟩ : ∃ W, Hid (wr.drew = W) := ⟨_, rfl⟩
          rw [HW.out] at A' HB' h14 h9 h1 h0 h16 hf16 ⊢
          obtain ⟨x14, H14⟩ : ∃ x, Hid ((wb (wa bl 64) k).getD (k + 14) 0 = x) := ⟨_, rfl⟩
          obtain ⟨x9, H9⟩ : ∃ x, Hid ((wb (wa bl 64) k).getD (k + 9) 0 = x) := ⟨_, rfl⟩
          obtain ⟨x1, H1⟩ : ∃ x, Hid ((wb (wa bl 64) k).getD (k + 1) 0 = x) := ⟨_, rfl⟩
          obtain ⟨x0, H0⟩ : ∃ x, Hid ((wb (wa bl 64) k).getD k 0 = x) := ⟨_, rfl⟩
          obtain ⟨x16, H16⟩ : ∃ x, Hid ((wb (wa bl 64) k).getD (k + 16) 0 = x) := ⟨_, rfl⟩
          rw [H14.out] at h14
          rw [H9.out] at h9
          rw [H1.out] at h1
          rw [H0.out] at h0
          rw [H16.out] at h16
          have HS0 : W = W := rfl
          refine lx_rd 0 ?vA0 (by kernel_rfl) (fun _ _ d _ _ h => by cases d <;> exact h) (by kernel_rfl) HS0 rfl rfl rfl (fun w' hS => ?hA0) ?_
          case hA0 => first | (go_simp; rfl) | (go_simp; done) | (go_simp; exact idx_ok (by omega) (by omega)) | (go_simp; exact wi64' (by omega) (by omega) (by omega)) | (go_simp; intro hh; exfalso; omega)
          simp only [List.setIfInBounds_toArray, List.set_cons_zero, List.set_cons_succ]
          refine lx_rd 1 ?vA1 (by kernel_rfl) (fun _ _ d _ _ h => by cases d <;> exact h) (by kernel_rfl) HS0 rfl rfl rfl (fun w' hS => ?hA1) ?_
          case hA1 => first | (go_simp; rfl) | (go_simp; done) | (go_simp; exact idx_ok (by omega) (by omega)) | (go_simp; exact wi64' (by omega) (by omega) (by omega)) | (go_simp; intro hh; exfalso; omega)
          simp only [List.setIfInBounds_toArray, List.set_cons_zero, List.set_cons_succ]
          refine lx_rd 2 (.int .i64 ((k + 14 : Nat) : Int)) (by kernel_rfl) (fun _ _ d _ _ h => by cases d <;> exact h) (by kernel_rfl) HS0 rfl rfl rfl (fun w' hS => ?hA2) ?_
          case hA2 => first | (go_simp; rfl) | (go_simp; done) | (go_simp; exact idx_ok (by omega) (by omega)) | (go_simp; exact wi64' (by omega) (by omega) (by omega)) | (go_simp; intro hh; exfalso; omega)
          simp only [List.setIfInBounds_toArray, List.set_cons_zero, List.set_cons_succ]
          refine lx_rd 3 (.pointer (some ⟨g2, k + 14, none⟩)) (by kernel_rfl) (fun _ _ d _ _ h => by cases d <;> exact h) (by kernel_rfl) HS0 rfl rfl rfl (fun w' hS => ?hA3) ?_
          case hA3 => first | (go_simp; rfl) | (go_simp; done) | (go_simp; exact idx_ok (by omega) (by omega)) | (go_simp; exact wi64' (by omega) (by omega) (by omega)) | (go_simp; intro hh; exfalso; omega)
          simp only [List.setIfInBounds_toArray, List.set_cons_zero, List.set_cons_succ]
          refine lx_rd 4 (.int .u32 x14) (by kernel_rfl) (fun _ _ d _ _ h => by cases d <;> exact h) (by kernel_rfl) HS0 rfl rfl rfl (fun w' hS => ?hA4) ?_
          case hA4 => subst hS; first | (go_simp; rfl) | (go_simp; done) | (go_simp; exact idx_ok (by omega) (by omega)) | (go_simp; exact wi64' (by omega) (by omega) (by omega)) | (go_simp; intro hh; exfalso; omega)
          simp only [List.setIfInBounds_toArray, List.set_cons_zero, List.set_cons_succ]
          refine lx_rd 6 ?vA6 (by kernel_rfl) (fun _ _ d _ _ h => by cases d <;> exact h) (by kernel_rfl) HS0 rfl rfl rfl (fun w' hS => ?hA6) ?_
          case hA6 => first | (go_simp; rfl) | (go_simp; done) | (go_simp; exact idx_ok (by omega) (by omega)) | (go_simp; exact wi64' (by omega) (by omega) (by omega)) | (go_simp; intro hh; exfalso; omega)
          simp only [List.setIfInBounds_toArray, List.set_cons_zero, List.set_cons_succ]
          refine lx_rd 7 (.int .i64 ((k + 9 : Nat) : Int)) (by kernel_rfl) (fun _ _ d _ _ h => by cases d <;> exact h) (by kernel_rfl) HS0 rfl rfl rfl (fun w' hS => ?hA7) ?_
          case hA7 => first | (go_simp; rfl) | (go_simp; done) | (go_simp; exact idx_ok (by omega) (by omega)) | (go_simp; exact wi64' (by omega) (by omega) (by omega)) | (go_simp; intro hh; exfalso; omega)
          simp only [List.setIfInBounds_toArray, List.set_cons_zero, List.set_cons_succ]
          refine lx_rd 8 (.pointer (some ⟨g2, k + 9, none⟩)) (by kernel_rfl) (fun _ _ d _ _ h => by cases d <;> exact h) (by kernel_rfl) HS0 rfl rfl rfl (fun w' hS => ?hA8) ?_
          case hA8 => first | (go_simp; rfl) | (go_simp; done) | (go_simp; exact idx_ok (by omega) (by omega)) | (go_simp; exact wi64' (by omega) (by omega) (by omega)) | (go_simp; intro hh; exfalso; omega)
          simp only [List.setIfInBounds_toArray, List.set_cons_zero, List.set_cons_succ]
          refine lx_rd 9 (.int .u32 x9) (by kernel_rfl) (fun _ _ d _ _ h => by cases d <;> exact h) (by kernel_rfl) HS0 rfl rfl rfl (fun w' hS => ?hA9) ?_
          case hA9 => subst hS; first | (go_simp; rfl) | (go_simp; done) | (go_simp; exact idx_ok (by omega) (by omega)) | (go_simp; exact wi64' (by omega) (by omega) (by omega)) | (go_simp; intro hh; exfalso; omega)
          simp only [List.setIfInBounds_toArray, List.set_cons_zero, List.set_cons_succ]
          refine lx_rd 11 ?vA11 (by kernel_rfl) (fun _ _ d _ _ h => by cases d <;> exact h) (by kernel_rfl) HS0 rfl rfl rfl (fun w' hS => ?hA11) ?_
          case hA11 => first | (go_simp; rfl) | (go_simp; done) | (go_simp; exact idx_ok (by omega) (by omega)) | (go_simp; exact wi64' (by omega) (by omega) (by omega)) | (go_simp; intro hh; exfalso; omega)
          simp only [List.setIfInBounds_toArray, List.set_cons_zero, List.set_cons_succ]
          refine lx_rd 12 (.int .i64 ((k + 1 : Nat) : Int)) (by kernel_rfl) (fun _ _ d _ _ h => by cases d <;> exact h) (by kernel_rfl) HS0 rfl rfl rfl (fun w' hS => ?hA12) ?_
          case hA12 => first | (go_simp; rfl) | (go_simp; done) | (go_simp; exact idx_ok (by omega) (by omega)) | (go_simp; exact wi64' (by omega) (by omega) (by omega)) | (go_simp; intro hh; exfalso; omega)
          simp only [List.setIfInBounds_toArray, List.set_cons_zero, List.set_cons_succ]
          refine lx_rd 13 (.pointer (some ⟨g2, k + 1, none⟩)) (by kernel_rfl) (fun _ _ d _ _ h => by cases d <;> exact h) (by kernel_rfl) HS0 rfl rfl rfl (fun w' hS => ?hA13) ?_
          case hA13 => first | (go_simp; rfl) | (go_simp; done) | (go_simp; exact idx_ok (by omega) (by omega)) | (go_simp; exact wi64' (by omega) (by omega) (by omega)) | (go_simp; intro hh; exfalso; omega)
          simp only [List.setIfInBounds_toArray, List.set_cons_zero, List.set_cons_succ]
          refine lx_rd 14 (.int .u32 x1) (by kernel_rfl) (fun _ _ d _ _ h => by cases d <;> exact h) (by kernel_rfl) HS0 rfl rfl rfl (fun w' hS => ?hA14) ?_
          case hA14 => subst hS; first | (go_simp; rfl) | (go_simp; done) | (go_simp; exact idx_ok (by omega) (by omega)) | (go_simp; exact wi64' (by omega) (by omega) (by omega)) | (go_simp; intro hh; exfalso; omega)
          simp only [List.setIfInBounds_toArray, List.set_cons_zero, List.set_cons_succ]
          refine lx_rd 17 ?vA17 (by kernel_rfl) (fun _ _ d _ _ h => by cases d <;> exact h) (by kernel_rfl) HS0 rfl rfl rfl (fun w' hS => ?hA17) ?_
          case hA17 => first | (go_simp; rfl) | (go_simp; done) | (go_simp; exact idx_ok (by omega) (by omega)) | (go_simp; exact wi64' (by omega) (by omega) (by omega)) | (go_simp; intro hh; exfalso; omega)
          simp only [List.setIfInBounds_toArray, List.set_cons_zero, List.set_cons_succ]
          refine lx_rd 18 (.int .i64 (k : Int)) (by kernel_rfl) (fun _ _ d _ _ h => by cases d <;> exact h) (by kernel_rfl) HS0 rfl rfl rfl (fun w' hS => ?hA18) ?_
          case hA18 => first | (go_simp; rfl) | (go_simp; done) | (go_simp; exact idx_ok (by omega) (by omega)) | (go_simp; exact wi64' (by omega) (by omega) (by omega)) | (go_simp; intro hh; exfalso; omega)
          simp only [List.setIfInBounds_toArray, List.set_cons_zero, List.set_cons_succ]
          refine lx_rd 19 (.pointer (some ⟨g2, k, none⟩)) (by kernel_rfl) (fun _ _ d _ _ h => by cases d <;> exact h) (by kernel_rfl) HS0 rfl rfl rfl (fun w' hS => ?hA19) ?_
          case hA19 => first | (go_simp; rfl) | (go_simp; done) | (go_simp; exact idx_ok (by omega) (by omega)) | (go_simp; exact wi64' (by omega) (by omega) (by omega)) | (go_simp; intro hh; exfalso; omega)
          simp only [List.setIfInBounds_toArray, List.set_cons_zero, List.set_cons_succ]
          refine lx_rd 20 (.int .u32 x0) (by kernel_rfl) (fun _ _ d _ _ h => by cases d <;> exact h) (by kernel_rfl) HS0 rfl rfl rfl (fun w' hS => ?hA20) ?_
          case hA20 => subst hS; first | (go_simp; rfl) | (go_simp; done) | (go_simp; exact idx_ok (by omega) (by omega)) | (go_simp; exact wi64' (by omega) (by omega) (by omega)) | (go_simp; intro hh; exfalso; omega)
          simp only [List.setIfInBounds_toArray, List.set_cons_zero, List.set_cons_succ]
          refine lx_one 5 (by kernel_rfl) (stepT_call 119 #[.int .u32 x14] rfl rfl rfl ?r5 ?_)
          case r5 => first | (go_simp; rfl) | go_simp
          refine (smallS1_any x14 _).mono ?_
          rintro e w' ⟨rfl, rfl⟩
          refine ⟨_, rfl, fun _ => rfl, ?_⟩
          simp only [List.setIfInBounds_toArray, List.set_cons_zero, List.set_cons_succ]
          refine lx_rd 10 (.int .u32 (ad (ws1 x14) x9)) (by kernel_rfl) (fun _ _ d _ _ h => by cases d <;> exact h) (by kernel_rfl) HS0 rfl rfl rfl (fun w' hS => ?hB10) ?_
          case hB10 => first | (go_simp; rfl) | (go_simp; done) | (go_simp; exact idx_ok (by omega) (by omega)) | (go_simp; exact wi64' (by omega) (by omega) (by omega)) | (go_simp; intro hh; exfalso; omega)
          simp only [List.setIfInBounds_toArray, List.set_cons_zero, List.set_cons_succ]
          refine lx_one 15 (by kernel_rfl) (stepT_call 120 #[.int .u32 x1] rfl rfl rfl ?r15 ?_)
          case r15 => first | (go_simp; rfl) | go_simp
          refine (smallS0_any x1 _).mono ?_
          rintro e w' ⟨rfl, rfl⟩
          refine ⟨_, rfl, fun _ => rfl, ?_⟩
          simp only [List.setIfInBounds_toArray, List.set_cons_zero, List.set_cons_succ]
          refine lx_rd 16 (.int .u32 (ad (ad (ws1 x14) x9) (ws0 x1))) (by kernel_rfl) (fun _ _ d _ _ h => by cases d <;> exact h) (by kernel_rfl) HS0 rfl rfl rfl (fun w' hS => ?hC16) ?_
          case hC16 => first | (go_simp; rfl) | (go_simp; done) | (go_simp; exact idx_ok (by omega) (by omega)) | (go_simp; exact wi64' (by omega) (by omega) (by omega)) | (go_simp; intro hh; exfalso; omega)
          simp only [List.setIfInBounds_toArray, List.set_cons_zero, List.set_cons_succ]
          refine lx_rd 21 (.int .u32 (ad (ad (ad (ws1 x14) x9) (ws0 x1)) x0)) (by kernel_rfl) (fun _ _ d _ _ h => by cases d <;> exact h) (by kernel_rfl) HS0 rfl rfl rfl (fun w' hS => ?hC21) ?_
          case hC21 => first | (go_simp; rfl) | (go_simp; done) | (go_simp; exact idx_ok (by omega) (by omega)) | (go_simp; exact wi64' (by omega) (by omega) (by omega)) | (go_simp; intro hh; exfalso; omega)
          simp only [List.setIfInBounds_toArray, List.set_cons_zero, List.set_cons_succ]
          refine lx_rd 22 (.pointer (some ⟨g2, k + 16, none⟩)) (by kernel_rfl) (fun _ _ d _ _ h => by cases d <;> exact h) (by kernel_rfl) HS0 rfl rfl rfl (fun w' hS => ?hC22) ?_
          case hC22 => first | (go_simp; rfl) | (go_simp; done) | (go_simp; exact idx_ok (by omega) (by omega)) | (go_simp; exact wi64' (by omega) (by omega) (by omega)) | (go_simp; intro hh; exfalso; omega)
          simp only [List.setIfInBounds_toArray, List.set_cons_zero, List.set_cons_succ]
          refine lx_one 23 (by kernel_rfl) (stepT_store (w' := w'.setCell ⟨g2, k + 16, none⟩ (.int .u32 (ad (ad (ad (ws1 x14) x9) (ws0 x1)) x0))) rfl rfl rfl ?r23 (fun h => by cases h) ?_)
          case r23 => first | (go_simp; rfl) | go_simp
          refine lx_nil (by kernel_rfl) ?_
          go_wp2_with fail
          refine ⟨⟨k + 1, by omega, by go_num, ?_, HB'.out.setCell (show w.heap.size ≤ g2 from hg) _⟩, by simp [intOf]; omega⟩
          have := A'.set (k + 16) (ad (ad (ad (ws1 x14) x9) (ws0 x1)) x0)
          unfold wb; rw [H14.out, H9.out, H1.out, H0.out]; exact this
        · obtain rfl : k = 48 := by omega
          have hwl48 := hwl 48
          have hi46 := (size_of Tryz.u46).2
          clear hwl
          go_wp2_with (first
            | (refine wp_load_ar rfl 98 (.tmp 2) rfl _ rfl 98 .u32 (wb (wa bl 64) 48) 88 64 Ak Tryz.u46 hwl48 ?_)
            | (refine wp_store_ar rfl 98 (.tmp 2) (.tmp 53) rfl _ rfl .u32 (wb (wa bl 64) 48) rfl 98 _ Ak rfl (by rw [hwl48]; exact hi46) ?_; intro w3 A3 hk3 hs3))
          refine bodyPost_ret (v := .agg (ic .u32 (words bl)).toArray) (ar_results rfl _ _ g2 98 .u32 (words bl) 88 64 rfl A3 Tryz.u46 hwl48) rfl ⟨rfl, ?_⟩
          exact HB.out.trans (hk3.below HB.out.size (fun j hj => by omega))

end Go.Proofs.YtmilcknboaefkaaGreatDoor
