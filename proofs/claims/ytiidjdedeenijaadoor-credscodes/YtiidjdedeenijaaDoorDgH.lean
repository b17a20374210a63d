/- digest.wordsOf. -/
import Derived.Test.YtiidjdedeenijaaDoorDgB
import Derived.Test.YtiidjdedeenijaaDoorLate
import Derived.Deep.MidRow
import Derived.Laws.CopyOwn
import Derived.Laws.BitsAll
set_option maxRecDepth 100000
namespace Go.Proofs.YtiidjdedeenijaaDoor
open Go.RowKit

def wa (bl : List Int) : Nat → List Int
  | 0 => List.replicate 64 0
  | k + 1 => (wa bl k).set (k / 4) (bits .or .u32 ((wa bl k).getD (k / 4) 0 * 256 % 4294967296) (bl.getD k 0))
theorem wa_len (bl : List Int) : ∀ k, (wa bl k).length = 64
  | 0 => by simp [wa]
  | k + 1 => by simp [wa, wa_len bl k]
/-- The words that follow from the first sixteen. -/
def wb (ws : List Int) : Nat → List Int
  | 0 => ws
  | i + 1 => (wb ws i).set (i + 16) (ad (ad (ad (ws1 ((wb ws i).getD (i + 14) 0)) ((wb ws i).getD (i + 9) 0)) (ws0 ((wb ws i).getD (i + 1) 0))) ((wb ws i).getD i 0))
theorem wb_len (ws : List Int) (h : ws.length = 64) : ∀ i, (wb ws i).length = 64
  | 0 => h
  | i + 1 => by simp [wb, wb_len ws h i]
def words (bl : List Int) : List Int := wb (wa bl 64) 48
theorem words_len (bl : List Int) : (words bl).length = 64 := wb_len _ (wa_len bl 64) 48

set_option maxRecDepth 100000 in
set_option maxHeartbeats 800000 in
theorem wordsOf_any (bl : List Int) (w : World) (hl : bl.length = 64) (hB : Bd bl) :
    Calls Tryd.prog 99 #[.agg (ic .u8 bl).toArray] w fun e w' => e = .returned (.agg (ic .u32 (words bl)).toArray) ∧ Below w.heap.size w w' := by
  go_enter Tryd.func99, Tryd.ntmps99
  go_wp2_with (first
    | (refine wp_box_ar rfl 142 (.tmp 0) rfl .u8 bl rfl ?_; intro g1 w1 A1 hg1 hb1)
    | (refine wp_alloc_ar rfl 119 rfl .u32 (List.replicate 64 0) 64 Tryd.z46 ?_; intro g2 w2 A2 hg2 hb2)
    | (refine wp_load_ar rfl 142 (.tmp 1) rfl _ rfl 142 .u8 bl 5 64 (A1.below hb2 A1.lt) Tryd.u55 hl ?_))
  have hb := (hb1.trans (hb2.mono hb1.size))
  have hg : w.heap.size ≤ g2 := Nat.le_trans hb1.size hg2
  clear hg2
  go_loopw [8] (fun i wr => ∃ k : Nat, k ≤ 64 ∧ i = .int .i64 k ∧ Ar wr g2 119 .u32 (wa bl k) ∧ Below w.heap.size w wr) (fun i _ => 64 - (intOf i).toNat)
  case atStart => exact ⟨0, by omega, rfl, A2, hb⟩
  case round =>
    obtain ⟨k, hk, rfl, Ak, hbk⟩ := hrel
    have HB : Hid (Below w.heap.size w wr) := hbk
    clear hbk hb
    by_cases hlt : k < 64
    · have hix := fun w => run_index_ar (P := Tryd.prog) w 142 5 64 .u8 bl k (size_of Tryd.u55).1 (by kernel_rfl) (by kernel_rfl) hl hlt
      have hc := Ak.cell (j := k / 4) (by rw [wa_len]; omega)
      have hf := Ak.fz (k / 4)
      have hcb := hB.get k
      obtain ⟨c, HC⟩ : ∃ c, Hid (bl.getD k 0 = c) := ⟨_, rfl⟩
      obtain ⟨x, HX⟩ : ∃ x, Hid ((wa bl k).getD (k / 4) 0 = x) := ⟨_, rfl⟩
      rw [HC.out] at hix hcb
      rw [HX.out] at hc
      clear A1 A2 hg1 hb1 hb2 hB
      go_wp2
      go_roundw
      case rel =>
        refine ⟨k + 1, by omega, by go_num, ?_, HB.out.setCell (show w.heap.size ≤ g2 from hg) _⟩
        have := Ak.set (k / 4) (bits .or .u32 (x * 256 % 4294967296) c)
        unfold wa; rw [HX.out, HC.out]; exact this
      case measure => simp [intOf]; omega
    · obtain rfl : k = 64 := by omega
      have hwl := wb_len (wa bl 64) (wa_len bl 64)
      clear A1 A2 hg1 hb1 hb2 hB hlt hk
      go_wp2_with fail
      go_loopw [24] (fun i wr => ∃ k : Nat, k ≤ 48 ∧ i = .int .i64 k ∧ Ar wr g2 119 .u32 (wb (wa bl 64) k) ∧ Below w.heap.size w wr) (fun i _ => 48 - (intOf i).toNat)
      case atStart => exact ⟨0, by omega, rfl, Ak, HB.out⟩
      case round =>
        clear Ak HB
        obtain ⟨k, hk, rfl, Ak, hbk⟩ := hrel
        have HB : Hid (Below w.heap.size w wr) := hbk
        clear hbk
        by_cases hlt : k < 48
        · go_wp2_with fail
          have A' : Ar wr.drew g2 119 .u32 (wb (wa bl 64) k) := Ak
          have HB' : Hid (Below w.heap.size w wr.drew) := HB.out.drew
          have h14 := A'.cell (j := k + 14) (by rw [hwl]; omega)
          have h9 := A'.cell (j := k + 9) (by rw [hwl]; omega)
          have h1 := A'.cell (j := k + 1) (by rw [hwl]; omega)
          have h0 := A'.cell (j := k) (by rw [hwl]; omega)
          have h16 := A'.cell (j := k + 16) (by rw [hwl]; omega)
          have hf16 := A'.fz (k + 16)
          clear Ak HB hl hwl
          refine wp_region_lx (fun w' => w' = wr.drew) [23] 24 (by kernel_rfl) (by kernel_rfl) ?_
          obtain ⟨W, HW⟩ : ∃ W, Hid (wr.drew = W) := ⟨_, rfl⟩
          rw [HW.out] at A' HB' h14 h9 h1 h0 h16 hf16 ⊢
          obtain ⟨x14, H14⟩ : ∃ x, Hid ((wb (wa bl 64) k).getD (k + 14) 0 = x) := ⟨_, rfl⟩
          obtain ⟨x9, H9⟩ : ∃ x, Hid ((wb (wa bl 64) k).getD (k + 9) 0 = x) := ⟨_, rfl⟩
          obtain ⟨x1, H1⟩ : ∃ x, Hid ((wb (wa bl 64) k).getD (k + 1) 0 = x) := ⟨_, rfl⟩
          obtain ⟨x0, H0⟩ : ∃ x, Hid ((wb (wa bl 64) k).getD k 0 = x) := ⟨_, rfl⟩
          obtain ⟨x16, H16⟩ : ∃ x, Hid ((wb (wa bl 64) k).getD (k + 16) 0 = x) := ⟨_, rfl⟩
          rw [H14.out] at h14
          rw [H9.out] at h9
          rw [H1.out] at h1
          rw [H0.out] at h0
          rw [H16.out] at h16
          have HS0 : W = W := rfl
          refine lx_rd 0 ?vA0 (by kernel_rfl) (fun _ _ d _ _ h => by cases d <;> exact h) (by kernel_rfl) HS0 rfl rfl rfl (fun w' hS => ?hA0) ?_
          case hA0 => first | (go_simp; rfl) | (go_simp; done) | (go_simp; exact idx_ok (by omega) (by omega)) | (go_simp; exact wi64' (by omega) (by omega) (by omega)) | (go_simp; intro hh; exfalso; omega)
          simp only [List.setIfInBounds_toArray, List.set_cons_zero, List.set_cons_succ]
          refine lx_rd 1 ?vA1 (by kernel_rfl) (fun _ _ d _ _ h => by cases d <;> exact h) (by kernel_rfl) HS0 rfl rfl rfl (fun w' hS => ?hA1) ?_
          case hA1 => first | (go_simp; rfl) | (go_simp; done) | (go_simp; exact idx_ok (by omega) (by omega)) | (go_simp; exact wi64' (by omega) (by omega) (by omega)) | (go_simp; intro hh; exfalso; omega)
          simp only [List.setIfInBounds_toArray, List.set_cons_zero, List.set_cons_succ]
          refine lx_rd 2 (.int .i64 ((k + 14 : Nat) : Int)) (by kernel_rfl) (fun _ _ d _ _ h => by cases d <;> exact h) (by kernel_rfl) HS0 rfl rfl rfl (fun w' hS => ?hA2) ?_
          case hA2 => first | (go_simp; rfl) | (go_simp; done) | (go_simp; exact idx_ok (by omega) (by omega)) | (go_simp; exact wi64' (by omega) (by omega) (by omega)) | (go_simp; intro hh; exfalso; omega)
          simp only [List.setIfInBounds_toArray, List.set_cons_zero, List.set_cons_succ]
          refine lx_rd 3 (.pointer (some ⟨g2, k + 14, none⟩)) (by kernel_rfl) (fun _ _ d _ _ h => by cases d <;> exact h) (by kernel_rfl) HS0 rfl rfl rfl (fun w' hS => ?hA3) ?_
          case hA3 => first | (go_simp; rfl) | (go_simp; done) | (go_simp; exact idx_ok (by omega) (by omega)) | (go_simp; exact wi64' (by omega) (by omega) (by omega)) | (go_simp; intro hh; exfalso; omega)
          simp only [List.setIfInBounds_toArray, List.set_cons_zero, List.set_cons_succ]
          refine lx_rd 4 (.int .u32 x14) (by kernel_rfl) (fun _ _ d _ _ h => by cases d <;> exact h) (by kernel_rfl) HS0 rfl rfl rfl (fun w' hS => ?hA4) ?_
          case hA4 => subst hS; first | (go_simp; rfl) | (go_simp; done) | (go_simp; exact idx_ok (by omega) (by omega)) | (go_simp; exact wi64' (by omega) (by omega) (by omega)) | (go_simp; intro hh; exfalso; omega)
          simp only [List.setIfInBounds_toArray, List.set_cons_zero, List.set_cons_succ]
          refine lx_rd 6 ?vA6 (by kernel_rfl) (fun _ _ d _ _ h => by cases d <;> exact h) (by kernel_rfl) HS0 rfl rfl rfl (fun w' hS => ?hA6) ?_
          case hA6 => first | (go_simp; rfl) | (go_simp; done) | (go_simp; exact idx_ok (by omega) (by omega)) | (go_simp; exact wi64' (by omega) (by omega) (by omega)) | (go_simp; intro hh; exfalso; omega)
          simp only [List.setIfInBounds_toArray, List.set_cons_zero, List.set_cons_succ]
          refine lx_rd 7 (.int .i64 ((k + 9 : Nat) : Int)) (by kernel_rfl) (fun _ _ d _ _ h => by cases d <;> exact h) (by kernel_rfl) HS0 rfl rfl rfl (fun w' hS => ?hA7) ?_
          case hA7 => first | (go_simp; rfl) | (go_simp; done) | (go_simp; exact idx_ok (by omega) (by omega)) | (go_simp; exact wi64' (by omega) (by omega) (by omega)) | (go_simp; intro hh; exfalso; omega)
          simp only [List.setIfInBounds_toArray, List.set_cons_zero, List.set_cons_succ]
          refine lx_rd 8 (.pointer (some ⟨g2, k + 9, none⟩)) (by kernel_rfl) (fun _ _ d _ _ h => by cases d <;> exact h) (by kernel_rfl) HS0 rfl rfl rfl (fun w' hS => ?hA8) ?_
          case hA8 => first | (go_simp; rfl) | (go_simp; done) | (go_simp; exact idx_ok (by omega) (by omega)) | (go_simp; exact wi64' (by omega) (by omega) (by omega)) | (go_simp; intro hh; exfalso; omega)
          simp only [List.setIfInBounds_toArray, List.set_cons_zero, List.set_cons_succ]
          refine lx_rd 9 (.int .u32 x9) (by kernel_rfl) (fun _ _ d _ _ h => by cases d <;> exact h) (by kernel_rfl) HS0 rfl rfl rfl (fun w' hS => ?hA9) ?_
          case hA9 => subst hS; first | (go_simp; rfl) | (go_simp; done) | (go_simp; exact idx_ok (by omega) (by omega)) | (go_simp; exact wi64' (by omega) (by omega) (by omega)) | (go_simp; intro hh; exfalso; omega)
          simp only [List.setIfInBounds_toArray, List.set_cons_zero, List.set_cons_succ]
          refine lx_rd 11 ?vA11 (by kernel_rfl) (fun _ _ d _ _ h => by cases d <;> exact h) (by kernel_rfl) HS0 rfl rfl rfl (fun w' hS => ?hA11) ?_
          case hA11 => first | (go_simp; rfl) | (go_simp; done) | (go_simp; exact idx_ok (by omega) (by omega)) | (go_simp; exact wi64' (by omega) (by omega) (by omega)) | (go_simp; intro hh; exfalso; omega)
          simp only [List.setIfInBounds_toArray, List.set_cons_zero, List.set_cons_succ]
          refine lx_rd 12 (.int .i64 ((k + 1 : Nat) : Int)) (by kernel_rfl) (fun _ _ d _ _ h => by cases d <;> exact h) (by kernel_rfl) HS0 rfl rfl rfl (fun w' hS => ?hA12) ?_
          case hA12 => first | (go_simp; rfl) | (go_simp; done) | (go_simp; exact idx_ok (by omega) (by omega)) | (go_simp; exact wi64' (by omega) (by omega) (by omega)) | (go_simp; intro hh; exfalso; omega)
          simp only [List.setIfInBounds_toArray, List.set_cons_zero, List.set_cons_succ]
          refine lx_rd 13 (.pointer (some ⟨g2, k + 1, none⟩)) (by kernel_rfl) (fun _ _ d _ _ h => by cases d <;> exact h) (by kernel_rfl) HS0 rfl rfl rfl (fun w' hS => ?hA13) ?_
          case hA13 => first | (go_simp; rfl) | (go_simp; done) | (go_simp; exact idx_ok (by omega) (by omega)) | (go_simp; exact wi64' (by omega) (by omega) (by omega)) | (go_simp; intro hh; exfalso; omega)
          simp only [List.setIfInBounds_toArray, List.set_cons_zero, List.set_cons_succ]
          refine lx_rd 14 (.int .u32 x1) (by kernel_rfl) (fun _ _ d _ _ h => by cases d <;> exact h) (by kernel_rfl) HS0 rfl rfl rfl (fun w' hS => ?hA14) ?_
          case hA14 => subst hS; first | (go_simp; rfl) | (go_simp; done) | (go_simp; exact idx_ok (by omega) (by omega)) | (go_simp; exact wi64' (by omega) (by omega) (by omega)) | (go_simp; intro hh; exfalso; omega)
          simp only [List.setIfInBounds_toArray, List.set_cons_zero, List.set_cons_succ]
          refine lx_rd 17 ?vA17 (by kernel_rfl) (fun _ _ d _ _ h => by cases d <;> exact h) (by kernel_rfl) HS0 rfl rfl rfl (fun w' hS => ?hA17) ?_
          case hA17 => first | (go_simp; rfl) | (go_simp; done) | (go_simp; exact idx_ok (by omega) (by omega)) | (go_simp; exact wi64' (by omega) (by omega) (by omega)) | (go_simp; intro hh; exfalso; omega)
          simp only [List.setIfInBounds_toArray, List.set_cons_zero, List.set_cons_succ]
          refine lx_rd 18 (.int .i64 (k : Int)) (by kernel_rfl) (fun _ _ d _ _ h => by cases d <;> exact h) (by kernel_rfl) HS0 rfl rfl rfl (fun w' hS => ?hA18) ?_
          case hA18 => first | (go_simp; rfl) | (go_simp; done) | (go_simp; exact idx_ok (by omega) (by omega)) | (go_simp; exact wi64' (by omega) (by omega) (by omega)) | (go_simp; intro hh; exfalso; omega)
          simp only [List.setIfInBounds_toArray, List.set_cons_zero, List.set_cons_succ]
          refine lx_rd 19 (.pointer (some ⟨g2, k, none⟩)) (by kernel_rfl) (fun _ _ d _ _ h => by cases d <;> exact h) (by kernel_rfl) HS0 rfl rfl rfl (fun w' hS => ?hA19) ?_
          case hA19 => first | (go_simp; rfl) | (go_simp; done) | (go_simp; exact idx_ok (by omega) (by omega)) | (go_simp; exact wi64' (by omega) (by omega) (by omega)) | (go_simp; intro hh; exfalso; omega)
          simp only [List.setIfInBounds_toArray, List.set_cons_zero, List.set_cons_succ]
          refine lx_rd 20 (.int .u32 x0) (by kernel_rfl) (fun _ _ d _ _ h => by cases d <;> exact h) (by kernel_rfl) HS0 rfl rfl rfl (fun w' hS => ?hA20) ?_
          case hA20 => subst hS; first | (go_simp; rfl) | (go_simp; done) | (go_simp; exact idx_ok (by omega) (by omega)) | (go_simp; exact wi64' (by omega) (by omega) (by omega)) | (go_simp; intro hh; exfalso; omega)
          simp only [List.setIfInBounds_toArray, List.set_cons_zero, List.set_cons_succ]
          refine lx_one 5 (by kernel_rfl) (stepT_call 107 #[.int .u32 x14] rfl rfl rfl ?r5 ?_)
          case r5 => first | (go_simp; rfl) | go_simp
          refine (smallS1_any x14 _).mono ?_
          rintro e w' ⟨rfl, rfl⟩
          refine ⟨_, rfl, fun _ => rfl, ?_⟩
          simp only [List.setIfInBounds_toArray, List.set_cons_zero, List.set_cons_succ]
          refine lx_rd 10 (.int .u32 (ad (ws1 x14) x9)) (by kernel_rfl) (fun _ _ d _ _ h => by cases d <;> exact h) (by kernel_rfl) HS0 rfl rfl rfl (fun w' hS => ?hB10) ?_
          case hB10 => first | (go_simp; rfl) | (go_simp; done) | (go_simp; exact idx_ok (by omega) (by omega)) | (go_simp; exact wi64' (by omega) (by omega) (by omega)) | (go_simp; intro hh; exfalso; omega)
          simp only [List.setIfInBounds_toArray, List.set_cons_zero, List.set_cons_succ]
          refine lx_one 15 (by kernel_rfl) (stepT_call 108 #[.int .u32 x1] rfl rfl rfl ?r15 ?_)
          case r15 => first | (go_simp; rfl) | go_simp
          refine (smallS0_any x1 _).mono ?_
          rintro e w' ⟨rfl, rfl⟩
          refine ⟨_, rfl, fun _ => rfl, ?_⟩
          simp only [List.setIfInBounds_toArray, List.set_cons_zero, List.set_cons_succ]
          refine lx_rd 16 (.int .u32 (ad (ad (ws1 x14) x9) (ws0 x1))) (by kernel_rfl) (fun _ _ d _ _ h => by cases d <;> exact h) (by kernel_rfl) HS0 rfl rfl rfl (fun w' hS => ?hC16) ?_
          case hC16 => first | (go_simp; rfl) | (go_simp; done) | (go_simp; exact idx_ok (by omega) (by omega)) | (go_simp; exact wi64' (by omega) (by omega) (by omega)) | (go_simp; intro hh; exfalso; omega)
          simp only [List.setIfInBounds_toArray, List.set_cons_zero, List.set_cons_succ]
          refine lx_rd 21 (.int .u32 (ad (ad (ad (ws1 x14) x9) (ws0 x1)) x0)) (by kernel_rfl) (fun _ _ d _ _ h => by cases d <;> exact h) (by kernel_rfl) HS0 rfl rfl rfl (fun w' hS => ?hC21) ?_
          case hC21 => first | (go_simp; rfl) | (go_simp; done) | (go_simp; exact idx_ok (by omega) (by omega)) | (go_simp; exact wi64' (by omega) (by omega) (by omega)) | (go_simp; intro hh; exfalso; omega)
          simp only [List.setIfInBounds_toArray, List.set_cons_zero, List.set_cons_succ]
          refine lx_rd 22 (.pointer (some ⟨g2, k + 16, none⟩)) (by kernel_rfl) (fun _ _ d _ _ h => by cases d <;> exact h) (by kernel_rfl) HS0 rfl rfl rfl (fun w' hS => ?hC22) ?_
          case hC22 => first | (go_simp; rfl) | (go_simp; done) | (go_simp; exact idx_ok (by omega) (by omega)) | (go_simp; exact wi64' (by omega) (by omega) (by omega)) | (go_simp; intro hh; exfalso; omega)
          simp only [List.setIfInBounds_toArray, List.set_cons_zero, List.set_cons_succ]
          refine lx_one 23 (by kernel_rfl) (stepT_store (w' := w'.setCell ⟨g2, k + 16, none⟩ (.int .u32 (ad (ad (ad (ws1 x14) x9) (ws0 x1)) x0))) rfl rfl rfl ?r23 (fun h => by cases h) ?_)
          case r23 => first | (go_simp; rfl) | go_simp
          refine lx_nil (by kernel_rfl) ?_
          go_wp2_with fail
          refine ⟨⟨k + 1, by omega, by go_num, ?_, HB'.out.setCell (show w.heap.size ≤ g2 from hg) _⟩, by simp [intOf]; omega⟩
          have := A'.set (k + 16) (ad (ad (ad (ws1 x14) x9) (ws0 x1)) x0)
          unfold wb; rw [H14.out, H9.out, H1.out, H0.out]; exact this
        · obtain rfl : k = 48 := by omega
          have hwl48 := hwl 48
          have hi46 := (size_of Tryd.u46).2
          clear hwl
          go_wp2_with (first
            | (refine wp_load_ar rfl 119 (.tmp 2) rfl _ rfl 119 .u32 (wb (wa bl 64) 48) 115 64 Ak Tryd.u46 hwl48 ?_)
            | (refine wp_store_ar rfl 119 (.tmp 2) (.tmp 53) rfl _ rfl .u32 (wb (wa bl 64) 48) rfl 119 _ Ak rfl (by rw [hwl48]; exact hi46) ?_; intro w3 A3 hk3 hs3))
          refine bodyPost_ret (v := .agg (ic .u32 (words bl)).toArray) (ar_results rfl _ _ g2 119 .u32 (words bl) 115 64 rfl A3 Tryd.u46 hwl48) rfl ⟨rfl, ?_⟩
          exact HB.out.trans (hk3.below HB.out.size (fun j hj => by omega))

end Go.Proofs.YtiidjdedeenijaaDoor

/- digest.mixed. -/
set_option maxRecDepth 100000
namespace Go.Proofs.YtiidjdedeenijaaDoor
open Go.RowKit

/-- The eight words that a round turns. -/
structure S8 where
  a : Int
  b : Int
  c : Int
  d : Int
  e : Int
  f : Int
  g : Int
  h : Int
def S8.of (l : List Int) : S8 := ⟨l.getD 0 0, l.getD 1 0, l.getD 2 0, l.getD 3 0, l.getD 4 0, l.getD 5 0, l.getD 6 0, l.getD 7 0⟩
def S8.l (s : S8) : List Int := [s.a, s.b, s.c, s.d, s.e, s.f, s.g, s.h]
def t1of (s : S8) (k w : Int) : Int := ad (ad (ad (ad s.h (wS1 s.e)) (wch s.e s.f s.g)) k) w
def t2of (s : S8) : Int := ad (wS0 s.a) (wmaj s.a s.b s.c)
def S8.step (s : S8) (k w : Int) : S8 := ⟨ad (t1of s k w) (t2of s), s.a, s.b, s.c, ad s.d (t1of s k w), s.e, s.f, s.g⟩
def rnds (ks ws : List Int) (s : S8) : Nat → S8
  | 0 => s
  | t + 1 => (rnds ks ws s t).step (ks.getD t 0) (ws.getD t 0)
/-- The sums at the end of a block. -/
def fin8 (hs vs : List Int) : Nat → List Int
  | 0 => hs
  | i + 1 => (fin8 hs vs i).set i (ad ((fin8 hs vs i).getD i 0) (vs.getD i 0))
theorem fin8_len (hs vs : List Int) (h : hs.length = 8) : ∀ i, (fin8 hs vs i).length = 8
  | 0 => h
  | i + 1 => by simp [fin8, fin8_len hs vs h i]

def kws : List Int := [1116352408, 1899447441, 3049323471, 3921009573, 961987163, 1508970993, 2453635748, 2870763221, 3624381080, 310598401, 607225278, 1426881987, 1925078388, 2162078206, 2614888103, 3248222580, 3835390401, 4022224774, 264347078, 604807628, 770255983, 1249150122, 1555081692, 1996064986, 2554220882, 2821834349, 2952996808, 3210313671, 3336571891, 3584528711, 113926993, 338241895, 666307205, 773529912, 1294757372, 1396182291, 1695183700, 1986661051, 2177026350, 2456956037, 2730485921, 2820302411, 3259730800, 3345764771, 3516065817, 3600352804, 4094571909, 275423344, 430227734, 506948616, 659060556, 883997877, 958139571, 1322822218, 1537002063, 1747873779, 1955562222, 2024104815, 2227730452, 2361852424, 2428436474, 2756734187, 3204031479, 3329325298]
def h0s : List Int := [1779033703, 3144134277, 1013904242, 2773480762, 1359893119, 2600822924, 528734635, 1541459225]
def mix (hs bl : List Int) : List Int := fin8 hs (rnds kws (words bl) (S8.of hs) 64).l 8
theorem mix_len (hs bl : List Int) (h : hs.length = 8) : (mix hs bl).length = 8 := fin8_len _ _ h 8

/-- The package's two tables, as cells. -/
structure Kt (w : World) : Prop where
  k : ∀ j, j < 64 → w.cell? ⟨4, j, none⟩ = some (.int .u32 (kws.getD j 0))
  h : ∀ j, j < 8 → w.cell? ⟨2, j, none⟩ = some (.int .u32 (h0s.getD j 0))
theorem Kt.below {w w' : World} (h : Kt w) {B : Nat} (hB : w.heap.size ≤ B) (hb : Below B w w') : Kt w' :=
  ⟨fun j hj => by have := h.k j hj; rw [hb.cell (Nat.lt_of_lt_of_le (World.block_lt_of_cell? w _ this) hB)]; exact this,
   fun j hj => by have := h.h j hj; rw [hb.cell (Nat.lt_of_lt_of_le (World.block_lt_of_cell? w _ this) hB)]; exact this⟩
theorem Kt.keep {S : Nat → Prop} {w w' : World} (h : Kt w) (hk : Keep S w w') (h0 : ¬ S 2) (h1 : ¬ S 4) : Kt w' := ⟨fun j hj => hk.cell (h.k j hj) h1, fun j hj => hk.cell (h.h j hj) h0⟩
theorem Kt.lt {w : World} (h : Kt w) : 2 < w.heap.size ∧ 4 < w.heap.size := ⟨World.block_lt_of_cell? w _ (h.h 0 (by omega)), World.block_lt_of_cell? w _ (h.k 0 (by omega))⟩
theorem Kt.drewN {w : World} (h : Kt w) (n : Nat) : Kt (w.drewN n) := ⟨h.k, h.h⟩

theorem t1_eq (s : S8) (x y : Int) : (s.h + wS1 s.e + wch s.e s.f s.g + x + y) % 4294967296 = t1of s x y := by simp [t1of, ad, Int.emod_add_emod]
theorem t2_eq (s : S8) : (wS0 s.a + wmaj s.a s.b s.c) % 4294967296 = t2of s := rfl
/-- What stands in memory while a block is mixed in. -/
structure MxW (w : World) (g1 g3 g5 : Nat) (hs os bl : List Int) (wr : World) : Prop where
  k : Kt wr
  s : Ar wr g1 117 .u32 hs
  o : Ar wr g3 117 .u32 os
  ws : Ar wr g5 119 .u32 (words bl)
  b : Below w.heap.size w wr
theorem MxW.drewN {w wr : World} {g1 g3 g5 : Nat} {hs os bl : List Int} (h : MxW w g1 g3 g5 hs os bl wr) (n : Nat) : MxW w g1 g3 g5 hs os bl (wr.drewN n) :=
  ⟨h.k.drewN n, h.s, h.o, h.ws, ⟨h.b.os, h.b.tape, h.b.output, h.b.size, h.b.block⟩⟩

set_option maxRecDepth 100000 in
set_option maxHeartbeats 1600000 in
theorem mixed_any (hs bl : List Int) (w : World) (hh : hs.length = 8) (hl : bl.length = 64) (hB : Bd bl) (hK : Kt w) :
    Calls Tryd.prog 89 #[.agg (ic .u32 hs).toArray, .agg (ic .u8 bl).toArray] w fun e w' => e = .returned (.agg (ic .u32 (mix hs bl)).toArray) ∧ Below w.heap.size w w' := by
  go_enter Tryd.func89, Tryd.ntmps89
  go_wp2_with (first
    | (refine wp_box_ar rfl 117 (.tmp 0) rfl .u32 hs rfl ?_; intro g1 w1 A1 hg1 hb1)
    | (refine wp_box_ar rfl 142 (.tmp 1) rfl .u8 bl rfl ?_; intro g2 w2 A2 hg2 hb2)
    | (refine wp_alloc_ar rfl 117 rfl .u32 (List.replicate 8 0) 8 Tryd.z45 ?_; intro g3 w3 A3 hg3 hb3)
    | (refine wp_load_ar rfl 142 (.tmp 3) rfl _ rfl 142 .u8 bl 5 64 (A2.below hb3 A2.lt) Tryd.u55 hl ?_)
    | (go_at_call 99; refine (wordsOf_any bl _ hl hB).mono ?_; rintro e w4 ⟨rfl, hb4⟩)
    | (refine wp_alloc_ar rfl 119 rfl .u32 (List.replicate 64 0) 64 Tryd.z46 ?_; intro g5 w5 A5 hg5 hb5)
    | (refine wp_store_ar rfl 119 (.tmp 5) (.tmp 20) rfl _ rfl .u32 (words bl) rfl 119 _ A5 (by rw [words_len]; rfl) (by rw [words_len]; exact (size_of Tryd.u46).2) ?_; intro w6 A6 hk6 hs6))
  have HB : Hid (Below w.heap.size w w6) := ((((hb1.trans (hb2.mono hb1.size)).trans (hb3.mono (Nat.le_trans hb1.size hb2.size))).trans (hb4.mono (Nat.le_trans hb1.size (Nat.le_trans hb2.size hb3.size)))).trans (hb5.mono (Nat.le_trans hb1.size (Nat.le_trans hb2.size (Nat.le_trans hb3.size hb4.size))))).trans (hk6.below (by have := hb1.size; have := hb2.size; have := hb3.size; have := hb4.size; have := hb5.size; omega) (fun j hj => by have := hb1.size; have := hb2.size; have := hb3.size; have := hb4.size; omega))
  have hA1lt := A1.lt
  have hA3lt := A3.lt
  have h12 := hb2.size
  have h23 := hb3.size
  have h34 := hb4.size
  have h45 := hb5.size
  have B1 : Ar w6 g1 117 .u32 hs := ((((A1.below hb2 A1.lt).below hb3 (by omega)).below hb4 (by omega)).below hb5 (by omega)).keep hk6 (by omega)
  have B3 : Ar w6 g3 117 .u32 (List.replicate 8 0) := ((A3.below hb4 A3.lt).below hb5 (by omega)).keep hk6 (by omega)
  have hK6 : Kt w6 := hK.below (Nat.le_refl _) HB.out
  have h13 : g1 ≠ g3 := by omega
  have h15 : g1 ≠ g5 := by omega
  have h35 : g3 ≠ g5 := by omega
  have hg : w.heap.size ≤ g1 ∧ w.heap.size ≤ g3 := ⟨hg1, by have := hb1.size; omega⟩
  have HM : MxW w g1 g3 g5 hs (List.replicate 8 0) bl w6 := ⟨hK6, B1, B3, A6, HB.out⟩
  clear hA1lt hA3lt h12 h23 h34 h45 hk6 hb1 hb2 hb3 hb4 hb5 A1 A2 A3 A5 hg1 hg2 hg3 hg5 hs6 hB hl hK
  have c0 := B1.cell (j := 0) (by omega)
  have c1 := B1.cell (j := 1) (by omega)
  have c2 := B1.cell (j := 2) (by omega)
  have c3 := B1.cell (j := 3) (by omega)
  have c4 := B1.cell (j := 4) (by omega)
  have c5 := B1.cell (j := 5) (by omega)
  have c6 := B1.cell (j := 6) (by omega)
  have c7 := B1.cell (j := 7) (by omega)
  obtain ⟨s0, HS⟩ : ∃ s, Hid (S8.of hs = s) := ⟨_, rfl⟩
  rw [show hs.getD 0 0 = s0.a from by rw [← HS.out]; rfl] at c0
  rw [show hs.getD 1 0 = s0.b from by rw [← HS.out]; rfl] at c1
  rw [show hs.getD 2 0 = s0.c from by rw [← HS.out]; rfl] at c2
  rw [show hs.getD 3 0 = s0.d from by rw [← HS.out]; rfl] at c3
  rw [show hs.getD 4 0 = s0.e from by rw [← HS.out]; rfl] at c4
  rw [show hs.getD 5 0 = s0.f from by rw [← HS.out]; rfl] at c5
  rw [show hs.getD 6 0 = s0.g from by rw [← HS.out]; rfl] at c6
  rw [show hs.getD 7 0 = s0.h from by rw [← HS.out]; rfl] at c7
  go_quiet (fail)
  clear c0 c1 c2 c3 c4 c5 c6 c7 hK6 B1 B3 A6 HB
  go_wp2
  go_loopw [6, 7, 8, 9, 10, 11, 12, 13, 37] (fun a b c d e f g h i wr => ∃ k : Nat, ∃ s : S8, k ≤ 64 ∧ i = .int .i64 k ∧ Hid (rnds kws (words bl) s0 k = s) ∧ a = .int .u32 s.a ∧ b = .int .u32 s.b ∧ c = .int .u32 s.c ∧ d = .int .u32 s.d ∧ e = .int .u32 s.e ∧ f = .int .u32 s.f ∧ g = .int .u32 s.g ∧ h = .int .u32 s.h ∧ MxW w g1 g3 g5 hs (List.replicate 8 0) bl wr) (fun _ _ _ _ _ _ _ _ i _ => 64 - (intOf i).toNat)
  case atStart => exact ⟨0, s0, by omega, rfl, rfl, rfl, rfl, rfl, rfl, rfl, rfl, rfl, rfl, HM.drewN nq⟩
  case round =>
    obtain ⟨k, s, hk, rfl, HR, rfl, rfl, rfl, rfl, rfl, rfl, rfl, rfl, HM⟩ := hrel
    by_cases hlt : k < 64
    · have ck := HM.k.k k hlt
      have cw := HM.ws.cell (j := k) (by rw [words_len]; exact hlt)
      have HL : Hid (k ≤ 64) := hk
      obtain ⟨x, HX⟩ : ∃ x, Hid (kws.getD k 0 = x) := ⟨_, rfl⟩
      obtain ⟨y, HY⟩ : ∃ x, Hid ((words bl).getD k 0 = x) := ⟨_, rfl⟩
      rw [HX.out] at ck
      rw [HY.out] at cw
      have hcl : (k : Int) < 64 := by omega
      clear hk
      go_wp2_with fail
      go_quiet ((first | (go_at_call 100; exact Calls.quiet_of_same (bigS1_any _ _)) | (go_at_call 101; exact Calls.quiet_of_same (choice_any _ _ _ _))))
      go_wp2_with (first | (go_at_call 102; refine (bigS0_any _ _).mono ?_; rintro e w' ⟨rfl, rfl⟩) | (go_at_call 103; refine (majority_any _ _ _ _).mono ?_; rintro e w' ⟨rfl, rfl⟩))
      refine ⟨⟨k + 1, s.step x y, by omega, by go_num, by show rnds _ _ _ (k + 1) = _; unfold rnds; rw [HR.out, HX.out, HY.out], ?_, rfl, rfl, rfl, ?_, rfl, rfl, rfl, HM.drewN _⟩, by simp [intOf]; omega⟩
      · rw [t1_eq, t2_eq]; rfl
      · rw [t1_eq]; rfl
    · obtain rfl : k = 64 := by omega
      have hcl : ¬ ((64 : Nat) : Int) < 64 := by omega
      have HF := fin8_len hs s.l hh
      have HM1 := HM.s
      have HM3 := HM.o
      have HMb := HM.b
      have HE : Hid (fin8 hs s.l 8 = mix hs bl) := by unfold mix; rw [HS.out, HR.out]; exact rfl
      clear HM HS HR hk hlt
      go_wp2_with fail
      go_loopw [86] (fun i wr => ∃ k : Nat, k ≤ 8 ∧ i = .int .i64 k ∧ Ar wr g1 117 .u32 (fin8 hs s.l k) ∧ Ar wr g3 117 .u32 (List.replicate 8 0) ∧ Below w.heap.size w wr) (fun i _ => 8 - (intOf i).toNat)
      case atStart => exact ⟨0, by omega, rfl, HM1, HM3, HMb⟩
      case round =>
        clear HM1 HM3 HMb
        obtain ⟨k, hk, rfl, A1, A3, hbk⟩ := hrel
        have HB : Hid (Below w.heap.size w wr) := hbk
        clear hbk
        by_cases hlt : k < 8
        · have hcl2 : (k : Int) < 8 := by omega
          have hix : ∀ w, (Instr.index 116 (.agg #[.int .u32 s.a, .int .u32 s.b, .int .u32 s.c, .int .u32 s.d, .int .u32 s.e, .int .u32 s.f, .int .u32 s.g, .int .u32 s.h]) (.int .i64 (k : Int))).run Tryd.prog w = .ok (.int .u32 (s.l.getD k 0)) w := fun w => run_index_ar (P := Tryd.prog) w 116 115 8 .u32 s.l k (by kernel_rfl) (by kernel_rfl) (by kernel_rfl) rfl hlt
          have hc := A1.cell (j := k) (by rw [HF]; exact hlt)
          have hf := A1.fz k
          obtain ⟨x, HX⟩ : ∃ x, Hid (s.l.getD k 0 = x) := ⟨_, rfl⟩
          obtain ⟨y, HY⟩ : ∃ x, Hid ((fin8 hs s.l k).getD k 0 = x) := ⟨_, rfl⟩
          rw [HX.out] at hix
          rw [HY.out] at hc
          clear HF hh
          go_wp2
          refine ⟨⟨k + 1, by omega, by go_num, ?_, A3.other (fun e => h13 e.symm) _, HB.out.setCell (show w.heap.size ≤ g1 from hg.1) _⟩, by simp [intOf]; omega⟩
          have := A1.set k (ad y x)
          unfold fin8; rw [HX.out, HY.out]; exact this
        · obtain rfl : k = 8 := by omega
          have hcl2 : ¬ ((8 : Nat) : Int) < 8 := by omega
          have hi45 := (size_of Tryd.u45).2
          have h8 := HF 8
          clear HF
          go_wp2_with (first
            | (refine wp_load_ar rfl 117 (.tmp 2) rfl _ rfl 117 .u32 (fin8 hs s.l 8) 115 8 A1 Tryd.u45 h8 ?_)
            | (refine wp_store_ar rfl 117 (.tmp 4) (.tmp 97) rfl _ rfl .u32 (fin8 hs s.l 8) rfl 117 _ A3 (by rw [h8]; rfl) (by rw [h8]; exact hi45) ?_; intro w3 A3' hk3 hs3))
          refine bodyPost_ret (v := .agg (ic .u32 (mix hs bl)).toArray) (ar_results rfl _ _ g3 117 .u32 (mix hs bl) 115 8 rfl (HE.out ▸ A3') Tryd.u45 (HE.out ▸ h8)) rfl ⟨rfl, ?_⟩
          exact HB.out.trans (hk3.below HB.out.size (fun j hj => by omega))

end Go.Proofs.YtiidjdedeenijaaDoor

/- digest.bytesOf, Xor, padded. -/
set_option maxRecDepth 100000
namespace Go.Proofs.YtiidjdedeenijaaDoor
open Go.RowKit

def bo (hs : List Int) : Nat → List Int
  | 0 => List.replicate 32 0
  | i + 1 => (bo hs i).set i (hs.getD (i / 4) 0 / 2 ^ (24 - 8 * (i % 4)) % 256)
theorem bo_len (hs : List Int) : ∀ i, (bo hs i).length = 32
  | 0 => by simp [bo]
  | i + 1 => by simp [bo, bo_len hs i]

set_option maxRecDepth 100000 in
set_option maxHeartbeats 800000 in
theorem bytesOf_any (hs : List Int) (w : World) (hh : hs.length = 8) :
    Calls Tryd.prog 90 #[.agg (ic .u32 hs).toArray] w fun e w' => e = .returned (.agg (ic .u8 (bo hs 32)).toArray) ∧ Below w.heap.size w w' := by
  go_enter Tryd.func90, Tryd.ntmps90
  go_wp2_with (first
    | (refine wp_box_ar rfl 117 (.tmp 0) rfl .u32 hs rfl ?_; intro g1 w1 A1 hg1 hb1)
    | (refine wp_alloc_ar rfl 26 rfl .u8 (List.replicate 32 0) 32 Tryd.z23 ?_; intro g2 w2 A2 hg2 hb2))
  have hg : w.heap.size ≤ g2 := Nat.le_trans hb1.size hg2
  have h12 : g1 ≠ g2 := by have := A1.lt; omega
  have B1 := A1.below hb2 A1.lt
  have hb := (hb1.trans (hb2.mono hb1.size))
  clear A1 hb1 hb2 hg1 hg2
  go_loopw [4] (fun i wr => ∃ k : Nat, k ≤ 32 ∧ i = .int .i64 k ∧ Ar wr g1 117 .u32 hs ∧ Ar wr g2 26 .u8 (bo hs k) ∧ Below w.heap.size w wr) (fun i _ => 32 - (intOf i).toNat)
  case atStart => exact ⟨0, by omega, rfl, B1, A2, hb⟩
  case round =>
    clear B1 A2 hb
    obtain ⟨k, hk, rfl, A1, A2, hbk⟩ := hrel
    have HB : Hid (Below w.heap.size w wr) := hbk
    clear hbk
    by_cases hlt : k < 32
    · have hcl : (k : Int) < 32 := by omega
      have hc := A1.cell (j := k / 4) (by omega)
      have hc2 := A2.cell (j := k) (by rw [bo_len]; omega)
      have hf := A2.fz k
      obtain ⟨x, HX⟩ : ∃ x, Hid (hs.getD (k / 4) 0 = x) := ⟨_, rfl⟩
      obtain ⟨y, HY⟩ : ∃ x, Hid ((bo hs k).getD k 0 = x) := ⟨_, rfl⟩
      rw [HX.out] at hc
      rw [HY.out] at hc2
      clear hh
      go_wp2
      rw [show 8 * (3 - k % 4) = 24 - 8 * (k % 4) from by omega]
      refine ⟨⟨k + 1, by omega, by go_num, A1.other h12 _, ?_, HB.out.setCell (show w.heap.size ≤ g2 from hg) _⟩, by simp [intOf]; omega⟩
      have := A2.set k (x / 2 ^ (24 - 8 * (k % 4)) % 256)
      unfold bo; rw [HX.out]; exact this
    · obtain rfl : k = 32 := by omega
      have hcl2 : ¬ ((32 : Nat) : Int) < 32 := by omega
      have hi23 := (size_of Tryd.u23).2
      have h32 := bo_len hs 32
      go_wp2_with (first
        | (refine wp_load_ar rfl 26 (.tmp 2) rfl _ rfl 26 .u8 (bo hs 32) 5 32 A2 Tryd.u23 h32 ?_)
        | (refine wp_store_ar rfl 26 (.tmp 2) (.tmp 20) rfl _ rfl .u8 (bo hs 32) rfl 26 _ A2 rfl (by rw [h32]; exact hi23) ?_; intro w3 A3 hk3 hs3))
      refine bodyPost_ret (v := .agg (ic .u8 (bo hs 32)).toArray) (ar_results rfl _ _ g2 26 .u8 (bo hs 32) 5 32 rfl A3 Tryd.u23 h32) rfl ⟨rfl, ?_⟩
      exact HB.out.trans (hk3.below HB.out.size (fun j hj => by omega))

def pb (xs : List Int) (p : Int) : Nat → List Int
  | 0 => xs
  | i + 1 => (pb xs p i).set i (bits .xor .u8 ((pb xs p i).getD i 0) p)
theorem pb_len (xs : List Int) (p : Int) : ∀ i, (pb xs p i).length = xs.length
  | 0 => rfl
  | i + 1 => by simp [pb, pb_len xs p i]
theorem Bd.set {xs : List Int} (h : Bd xs) (i : Nat) {v : Int} (h0 : 0 ≤ v) (h1 : v ≤ 255) : Bd (xs.set i v) := fun x hx => by
  rcases List.mem_or_eq_of_mem_set hx with g | g
  · exact h x g
  · subst g; exact ⟨h0, h1⟩
theorem bits8 (op : BinOp) (a b : Int) : 0 ≤ bits op .u8 a b ∧ bits op .u8 a b ≤ 255 := bits_within op .u8 a b
theorem pb_bd (xs : List Int) (p : Int) (h : Bd xs) : ∀ i, Bd (pb xs p i)
  | 0 => h
  | i + 1 => by unfold pb; exact (pb_bd xs p h i).set i (bits8 _ _ _).1 (bits8 _ _ _).2

/-- The package's first state, whole. -/
theorem Kt.load {w : World} (h : Kt w) : w.rangeAt 2 0 (ic .u32 h0s) := fun j v hv => by
  have hj : j < 8 := by
    rcases Nat.lt_or_ge j 8 with g | g
    · exact g
    · rw [List.getElem?_eq_none (by simpa [ic, h0s] using g)] at hv; cases hv
  have := h.h j hj
  rw [Nat.zero_add, this, ← hv]
  simp [ic, List.getD, show j < h0s.length from hj]

set_option maxRecDepth 100000 in
set_option maxHeartbeats 800000 in
theorem padded_any (xs : List Int) (p : Int) (w : World) (hl : xs.length = 64) (hB : Bd xs) (hK : Kt w) :
    Calls Tryd.prog 97 #[.agg (ic .u8 xs).toArray, .int .u8 p] w fun e w' => e = .returned (.agg (ic .u32 (mix h0s (pb xs p 64))).toArray) ∧ Below w.heap.size w w' := by
  go_enter Tryd.func97, Tryd.ntmps97
  go_wp2_with (first
    | (refine wp_box_ar rfl 142 (.tmp 0) rfl .u8 xs rfl ?_; intro g1 w1 A1 hg1 hb1)
    | (refine wp_alloc_ar rfl 117 rfl .u32 (List.replicate 8 0) 8 Tryd.z45 ?_; intro g2 w2 A2 hg2 hb2))
  have hg : w.heap.size ≤ g2 := Nat.le_trans hb1.size hg2
  have h12 : g1 ≠ g2 := by have := A1.lt; omega
  have B1 := A1.below hb2 A1.lt
  have hb := (hb1.trans (hb2.mono hb1.size))
  clear A1 hb1 hb2 hg2
  go_loopw [6] (fun i wr => ∃ k : Nat, k ≤ 64 ∧ i = .int .i64 k ∧ Ar wr g1 142 .u8 (pb xs p k) ∧ Ar wr g2 117 .u32 (List.replicate 8 0) ∧ Below w.heap.size w wr) (fun i _ => 64 - (intOf i).toNat)
  case atStart => exact ⟨0, by omega, rfl, B1, A2, hb⟩
  case round =>
    clear B1 A2 hb
    obtain ⟨k, hk, rfl, A1, A2, hbk⟩ := hrel
    have HB : Hid (Below w.heap.size w wr) := hbk
    clear hbk
    by_cases hlt : k < 64
    · have hcl : (k : Int) < 64 := by omega
      have hc := A1.cell (j := k) (by rw [pb_len]; omega)
      have hf := A1.fz k
      obtain ⟨x, HX⟩ : ∃ x, Hid ((pb xs p k).getD k 0 = x) := ⟨_, rfl⟩
      rw [HX.out] at hc
      clear hl hB
      go_wp2
      refine ⟨⟨k + 1, by omega, by go_num, ?_, A2.other (fun e => h12 e.symm) _, HB.out.setCell (show w.heap.size ≤ g1 from hg1) _⟩, by simp [intOf]; omega⟩
      have := A1.set k (bits .xor .u8 x p)
      unfold pb; rw [HX.out]; exact this
    · obtain rfl : k = 64 := by omega
      have hcl2 : ¬ ((64 : Nat) : Int) < 64 := by omega
      have hi45 := (size_of Tryd.u45)
      have h64 : (pb xs p 64).length = 64 := by rw [pb_len, hl]
      have hKr : Kt wr := hK.below (Nat.le_refl _) HB.out
      have hml := mix_len h0s (pb xs p 64) rfl
      have hbd := pb_bd xs p hB 64
      go_wp2_with (first
        | (refine wpList_load_mid rfl 117 (.global 2) rfl _ 0 rfl (ic .u32 h0s) _ hKr.load hi45.1 rfl hi45.2 ?_)
        | (refine wp_load_ar rfl 142 (.tmp 2) rfl _ rfl 142 .u8 (pb xs p 64) 5 64 A1 Tryd.u55 h64 ?_)
        | (go_at_call 89; refine (mixed_any h0s (pb xs p 64) _ rfl h64 hbd hKr).mono ?_; rintro e w4 ⟨rfl, hb4⟩)
        | (refine wp_store_ar rfl 117 (.tmp 4) (.tmp 18) rfl _ rfl .u32 (mix h0s (pb xs p 64)) rfl 117 _ (A2.below hb4 A2.lt) (by rw [hml]; rfl) (by rw [hml]; exact hi45.2) ?_; intro w3 A3' hk3 hs3))
      refine bodyPost_ret (v := .agg (ic .u32 (mix h0s (pb xs p 64))).toArray) (ar_results rfl _ _ g2 117 .u32 _ 115 8 rfl A3' Tryd.u45 hml) rfl ⟨rfl, ?_⟩
      have hB4 := HB.out.trans (hb4.mono HB.out.size)
      exact hB4.trans (hk3.below hB4.size (fun j hj => by omega))

end Go.Proofs.YtiidjdedeenijaaDoor

/- digest.shaBehind: blocks, and what is put behind. -/
set_option maxRecDepth 100000
namespace Go.Proofs.YtiidjdedeenijaaDoor
open Go.RowKit

/-- Some blocks of xs, mixed in. -/
def runB (xs hs : List Int) : Nat → List Int
  | 0 => hs
  | k + 1 => mix (runB xs hs k) ((xs.drop (64 * k)).take 64)
theorem runB_len (xs hs : List Int) (h : hs.length = 8) : ∀ k, (runB xs hs k).length = 8
  | 0 => h
  | k + 1 => mix_len _ _ (runB_len xs hs h k)
theorem runB_app (xs ys hs : List Int) : ∀ k, 64 * k ≤ xs.length → runB (xs ++ ys) hs k = runB xs hs k
  | 0, _ => rfl
  | k + 1, h => by
    unfold runB
    rw [runB_app xs ys hs k (by omega), List.drop_append_of_le_length (by omega), List.take_append_of_le_length (by rw [List.length_drop]; omega)]
def be8 (L : Int) : List Int := [L / 2 ^ 56 % 256, L / 2 ^ 48 % 256, L / 2 ^ 40 % 256, L / 2 ^ 32 % 256, L / 2 ^ 24 % 256, L / 2 ^ 16 % 256, L / 2 ^ 8 % 256, L % 256]
def zn (n : Nat) : Nat := if n % 64 < 56 then 55 - n % 64 else 119 - n % 64
/-- xs with what is put behind it, ah bytes being ahead. -/
def padT (ah : Nat) (xs : List Int) : List Int := xs ++ (128 :: (List.replicate (zn xs.length) 0 ++ be8 (8 * ((ah + xs.length : Nat) : Int))))
def shaB (ah : Nat) (hs xs : List Int) : List Int := bo (runB (padT ah xs) hs ((padT ah xs).length / 64)) 32
def sha (xs : List Int) : List Int := shaB 0 h0s xs

def lb (base : List Int) (L : Int) : Nat → List Int
  | 0 => base
  | k + 1 => (lb base L k).set (63 - k) (L / 2 ^ (8 * k) % 256)
theorem lb_len (base : List Int) (L : Int) : ∀ k, (lb base L k).length = base.length
  | 0 => rfl
  | k + 1 => by simp [lb, lb_len base L k]
theorem lb_be (pre : List Int) (L : Int) (h : pre.length = 56) : lb (pre ++ List.replicate 8 0) L 8 = pre ++ be8 L := by
  have hs : ∀ (j : Nat) (l : List Int) (v : Int), (pre ++ l).set (56 + j) v = pre ++ l.set j v := fun j l v => by
    rw [List.set_append_right _ _ (by omega)]; congr 2; omega
  simp only [lb]
  rw [show 63 - 0 = 56 + 7 from rfl, hs, show 63 - 1 = 56 + 6 from rfl, hs, show 63 - 2 = 56 + 5 from rfl, hs, show 63 - 3 = 56 + 4 from rfl, hs, show 63 - 4 = 56 + 3 from rfl, hs, show 63 - 5 = 56 + 2 from rfl, hs, show 63 - 6 = 56 + 1 from rfl, hs, show 63 - 7 = 56 + 0 from rfl, hs]
  simp [be8, List.replicate]

theorem pad_len (ah : Nat) (xs : List Int) : (padT ah xs).length = xs.length + 1 + zn xs.length + 8 := by simp [padT, be8]; omega
theorem shaB_lo (ah k m : Nat) (xs ys hs : List Int) (hk : xs.length = 64 * k + m) (hm : m < 56) (hy : xs.drop (64 * k) = ys) :
    bo (mix (runB xs hs k) (ys ++ (128 :: (List.replicate (55 - m) 0 ++ be8 (8 * ((ah + xs.length : Nat) : Int)))))) 32 = shaB ah hs xs := by
  have hmod : xs.length % 64 = m := by omega
  have hz : zn xs.length = 55 - m := by unfold zn; rw [hmod, if_pos hm]
  have hyl : ys.length = m := by rw [← hy, List.length_drop]; omega
  unfold shaB
  rw [pad_len, hz, show (xs.length + 1 + (55 - m) + 8) / 64 = k + 1 from by omega]
  show _ = bo (mix (runB (padT ah xs) hs k) (((padT ah xs).drop (64 * k)).take 64)) 32
  unfold padT
  rw [runB_app _ _ _ _ (by omega), List.drop_append_of_le_length (by omega), hy, hz, List.take_of_length_le (by simp [be8]; omega)]
theorem shaB_hi (ah k m : Nat) (xs ys hs : List Int) (hk : xs.length = 64 * k + m) (hm : 56 ≤ m) (hm2 : m < 64) (hy : xs.drop (64 * k) = ys) :
    bo (mix (mix (runB xs hs k) (ys ++ (128 :: List.replicate (63 - m) 0))) (List.replicate 56 0 ++ be8 (8 * ((ah + xs.length : Nat) : Int)))) 32 = shaB ah hs xs := by
  have hmod : xs.length % 64 = m := by omega
  have hz : zn xs.length = 119 - m := by unfold zn; rw [hmod, if_neg (by omega)]
  have hyl : ys.length = m := by rw [← hy, List.length_drop]; omega
  have hsp : (List.replicate (119 - m) 0 : List Int) = List.replicate (63 - m) 0 ++ List.replicate 56 0 := by rw [List.replicate_append_replicate]; congr 1; omega
  unfold shaB
  rw [pad_len, hz, show (xs.length + 1 + (119 - m) + 8) / 64 = k + 1 + 1 from by omega]
  show _ = bo (mix (mix (runB (padT ah xs) hs k) (((padT ah xs).drop (64 * k)).take 64)) (((padT ah xs).drop (64 * (k + 1))).take 64)) 32
  unfold padT
  rw [runB_app _ _ _ _ (by omega), List.drop_append_of_le_length (show 64 * k ≤ xs.length by omega), hy, hz, hsp]
  have e1 : (List.take 64 (ys ++ 128 :: (List.replicate (63 - m) 0 ++ List.replicate 56 0 ++ be8 (8 * ((ah + xs.length : Nat) : Int))))) = ys ++ (128 :: List.replicate (63 - m) 0) := by
    rw [show ys ++ 128 :: (List.replicate (63 - m) 0 ++ List.replicate 56 0 ++ be8 (8 * ((ah + xs.length : Nat) : Int))) = (ys ++ (128 :: List.replicate (63 - m) 0)) ++ (List.replicate 56 0 ++ be8 (8 * ((ah + xs.length : Nat) : Int))) from by simp]
    rw [List.take_append_of_le_length (by simp; omega), List.take_of_length_le (by simp; omega)]
  have e2 : List.drop (64 * (k + 1)) (xs ++ 128 :: (List.replicate (63 - m) 0 ++ List.replicate 56 0 ++ be8 (8 * ((ah + xs.length : Nat) : Int)))) = List.replicate 56 0 ++ be8 (8 * ((ah + xs.length : Nat) : Int)) := by
    rw [show xs ++ 128 :: (List.replicate (63 - m) 0 ++ List.replicate 56 0 ++ be8 (8 * ((ah + xs.length : Nat) : Int))) = (xs ++ (128 :: List.replicate (63 - m) 0)) ++ (List.replicate 56 0 ++ be8 (8 * ((ah + xs.length : Nat) : Int))) from by simp]
    rw [List.drop_append, List.drop_eq_nil_of_le (by simp; omega), List.nil_append, show 64 * (k + 1) - (xs ++ 128 :: List.replicate (63 - m) (0 : Int)).length = 0 from by simp; omega, List.drop_zero]
  rw [e1, e2, List.take_of_length_le (by simp [be8])]

theorem end_lo (ah k m n : Nat) (L : Int) (xs ys hs h8 T : List Int) (hx : xs.length = n) (hk : xs.length = 64 * k + m) (hm : m < 56) (hy : xs.drop (64 * k) = ys) (h8e : runB xs hs k = h8) (hT : ys ++ (128 :: List.replicate (63 - m) 0) = T) (hL : 8 * ((ah : Int) + (n : Int)) = L) :
    bo (mix h8 (lb T L 8)) 32 = shaB ah hs xs := by
  have hyl : ys.length = m := by rw [← hy, List.length_drop]; omega
  have hr : (List.replicate (63 - m) 0 : List Int) = List.replicate (55 - m) 0 ++ List.replicate 8 0 := by
    rw [List.replicate_append_replicate, show 55 - m + 8 = 63 - m from by omega]
  have hq : ((ah + xs.length : Nat) : Int) = (ah : Int) + (n : Int) := by omega
  have e : T = (ys ++ (128 :: List.replicate (55 - m) 0)) ++ List.replicate 8 0 := by rw [← hT, hr]; simp
  rw [← shaB_lo ah k m xs ys hs hk hm hy, h8e, e, lb_be _ _ (by rw [List.length_append, hyl]; simp; omega), hq, hL]
  simp
theorem end_hi (ah k m n : Nat) (L : Int) (xs ys hs h8 T Z : List Int) (hx : xs.length = n) (hk : xs.length = 64 * k + m) (hm : 56 ≤ m) (hm2 : m < 64) (hy : xs.drop (64 * k) = ys) (h8e : runB xs hs k = h8) (hT : ys ++ (128 :: List.replicate (63 - m) 0) = T) (hZ : List.replicate 64 0 = Z) (hL : 8 * ((ah : Int) + (n : Int)) = L) :
    bo (mix (mix h8 T) (lb Z L 8)) 32 = shaB ah hs xs := by
  have hq : ((ah + xs.length : Nat) : Int) = (ah : Int) + (n : Int) := by omega
  have e : Z = List.replicate 56 0 ++ List.replicate 8 0 := by rw [← hZ, List.replicate_append_replicate]
  rw [← shaB_hi ah k m xs ys hs hk hm hm2 hy, h8e, hT, e, lb_be _ _ (by simp), hq, hL]

/-- Bytes laid over others. -/
def ov (xs ys : List Int) : List Int := ys.take xs.length ++ xs.drop ys.length
theorem ov_len (xs ys : List Int) : (ov xs ys).length = xs.length := by simp [ov]; omega

theorem ov_zero (ys : List Int) (m : Nat) (h : ys.length = m) (hm : m < 64) : (ov (List.replicate 64 0) ys).set m 128 = ys ++ (128 :: List.replicate (63 - m) 0) := by
  unfold ov
  rw [List.length_replicate, List.take_of_length_le (by omega), List.drop_replicate, h, show 64 - m = (63 - m) + 1 from by omega, List.replicate_succ, List.set_append_right _ _ (by omega), h, Nat.sub_self, List.set_cons_zero]
theorem wp_build_ar {P : Program} {ops : Array Oper} {rest : List Oper} {o : Oper} {a : Act} {w : World} {Q : Exit → Act → World → Prop} (hgd : o.guard = none) (ty : TypeId) (ho : o.op = .build ty #[]) (k : IntKind) (xs : List Int)
    (hb : P.built ty [] = some (ic k xs).toArray) (h : wpList P ops Q rest (a.put o.dst (.agg (ic k xs).toArray)) w) : wpList P ops Q (o :: rest) a w := by
  refine wpList_build hgd ty #[] ho (by simp [hb]) ?_
  simpa [hb] using h
theorem wp_copy_ar {ops : Array Oper} {rest : List Oper} {o : Oper} {a : Act} {w : World} {Q : Exit → Act → World → Prop} (hgd : o.guard = none) (d s : Operand)
    (ho : o.op = .call { callee := .builtin .copy, args := #[d, s], argTypes := #[22, 22] }) (g n cd : Nat) (hd : a.eval d = .slice (some ⟨g, 0, none⟩) n cd) (t : TypeId) (xs : List Int) (hg : Ar w g t .u8 xs) (hn : xs.length = n)
    (ao : Option Addr) (m c : Nat) (ys : List Int) (hs : a.eval s = .slice ao m c) (hr : Rd w ao m c ys)
    (h : ∀ w1 r, Ar w1 g t .u8 (ov xs ys) → Keep (fun j => j = g) w w1 → w1.heap.size = w.heap.size → wpList Tryd.prog ops Q rest (a.put o.dst (goInt r)) w1) : wpList Tryd.prog ops Q (o :: rest) a w := by
  have hu : Tryd.prog.underlying 22 = some (.slice 5) := Tryd.underlying22
  have hsz : (Tryd.prog.info? 5).map (·.size) = some 1 := by kernel_rfl
  have hmin : ∀ a b : Nat, Nat.min a b = min a b := fun _ _ => rfl
  by_cases h0 : Nat.min m n = 0
  · refine wpList_copy_nothing hgd d s 22 22 ho 5 hu hsz _ ao n cd m c hd hs h0 ?_
    refine h w _ ?_ (Keep.refl _ _) rfl
    have : ov xs ys = xs := by
      unfold ov
      by_cases hm : m = 0
      · have : ys = [] := List.eq_nil_of_length_eq_zero (by rw [hr.len]; exact hm)
        subst this; simp
      · have : xs = [] := List.eq_nil_of_length_eq_zero (by rw [hn]; rw [hmin] at h0; omega)
        subst this; simp
    rw [this]; exact hg
  · cases ao with
    | none => obtain ⟨rfl, rfl⟩ := rd_noneK hr rfl; simp at h0
    | some ad =>
      have hcl : ((bc ys).take n).length = Nat.min m n := by rw [List.length_take, bc_len, hr.len, hmin]; omega
      refine wpList_copy_own hgd d s 22 22 ho 5 hu hsz g 0 n cd ad m c hd hs _ t hg ((bc ys).take n) hcl
        (fun j v hv => hr.news rfl j v (by rw [List.getElem?_take] at hv; split at hv; exact hv; cases hv)) (by rw [hcl, hmin]; simp [ic_len, hn]; omega) (fun v hv => bc_one ys v (List.mem_of_mem_take hv)) ?_
      refine h _ _ ?_ ⟨rfl, rfl, rfl, by simp, fun j _ hj => setRow_other w g j _ hj⟩ (by simp)
      show (w.setRow g _).heap[g]? = _
      rw [setRow_heap w g _ _ t (0, 0) hg]
      congr 2
      simp only [List.take_zero, List.nil_append, Nat.zero_add]
      unfold ov ic bc
      rw [hn, List.map_append, List.map_take, List.map_drop]
      congr 2
      have := hr.len
      by_cases hmn : m ≤ n
      · rw [List.length_take, List.length_map]; congr 1; omega
      · rw [List.drop_eq_nil_of_le (by simp [hn]; omega), List.drop_eq_nil_of_le (by simp [hn]; omega)]

end Go.Proofs.YtiidjdedeenijaaDoor

/- digest.shaBehind, walked. -/
set_option maxRecDepth 100000
namespace Go.Proofs.YtiidjdedeenijaaDoor
open Go.RowKit

/-- What stands in memory between two steps. -/
structure ShW (w : World) (g1 g2 g3 : Nat) (hs bl : List Int) (wr : World) : Prop where
  k : Kt wr
  s : Ar wr g1 117 .u32 hs
  o : Ar wr g2 26 .u8 (List.replicate 32 0)
  bk : Ar wr g3 142 .u8 bl
  b : Below w.heap.size w wr

def lenV : Value → Nat
  | .slice _ n _ => n
  | _ => 0

theorem hidE {α : Type} (a : α) : ∃ x, Hid (a = x) := ⟨a, rfl⟩
theorem bd_cons {x : Int} {xs : List Int} (h0 : 0 ≤ x) (h1 : x ≤ 255) (h : Bd xs) : Bd (x :: xs) := fun y hy => by
  rcases List.mem_cons.1 hy with g | g
  · subst g; exact ⟨h0, h1⟩
  · exact h y g
theorem bd_zeros (n : Nat) : Bd (List.replicate n 0) := fun y hy => by rw [List.mem_replicate] at hy; omega
theorem lb_bd (base : List Int) (L : Int) (h : Bd base) : ∀ k, Bd (lb base L k)
  | 0 => h
  | k + 1 => by unfold lb; exact (lb_bd base L h k).set _ (by omega) (by omega)

set_option maxRecDepth 100000 in
set_option maxHeartbeats 1600000 in
theorem shaBehind_any (hs : List Int) (ah : Nat) (a : Option Addr) (n c : Nat) (xs : List Int) (w : World) (hh : hs.length = 8) (hah : ah ≤ 64) (hR : Rd w a n c xs) (hn : n ≤ 1000000000) (hK : Kt w) :
    Calls Tryd.prog 70 #[.agg (ic .u32 hs).toArray, .int .i64 ah, .slice a n c] w fun e w' => e = .returned (.agg (ic .u8 (shaB ah hs xs)).toArray) ∧ Below w.heap.size w w' := by
  have hl := hR.len
  have hcp := hR.cap
  have hmx : c ≤ 9223372036854775807 := hR.most
  have HL : Hid (xs.length = n) := hl
  clear hl
  go_enter Tryd.func70, Tryd.ntmps70
  go_wp2_with (first
    | (refine wp_box_ar rfl 117 (.tmp 0) rfl .u32 hs rfl ?_; intro g1 w1 A1 hg1 hb1)
    | (refine wp_alloc_ar rfl 26 rfl .u8 (List.replicate 32 0) 32 Tryd.z23 ?_; intro g2 w2 A2 hg2 hb2)
    | (refine wp_alloc_ar rfl 142 rfl .u8 (List.replicate 64 0) 64 Tryd.z55 ?_; intro g3 w3 A3 hg3 hb3))
  simp only [Act.put, List.setIfInBounds_toArray, List.set_cons_zero, List.set_cons_succ]
  have h12 : g1 ≠ g2 := by have := A1.lt; omega
  have h13 : g1 ≠ g3 := by have := A1.lt; have := hb2.size; omega
  have h23 : g2 ≠ g3 := by have := A2.lt; omega
  have hG1 : w.heap.size ≤ g1 := hg1
  have hG2 : w.heap.size ≤ g2 := by have := hb1.size; omega
  have hG3 : w.heap.size ≤ g3 := by have := hb1.size; have := hb2.size; omega
  have hKl := hK.lt
  have hb := (hb1.trans (hb2.mono hb1.size)).trans (hb3.mono (Nat.le_trans hb1.size hb2.size))
  have HS : ShW w g1 g2 g3 hs (List.replicate 64 0) w3 := ⟨hK.below (Nat.le_refl _) hb, (A1.below hb2 A1.lt).below hb3 (Nat.lt_of_lt_of_le A1.lt hb2.size), A2.below hb3 A2.lt, A3, hb⟩
  obtain ⟨L, HLL⟩ : ∃ L : Int, Hid (8 * ((ah : Int) + (n : Int)) = L) := ⟨_, rfl⟩
  rw [HLL.out]
  have hL0 : 0 ≤ L := by rw [← HLL.out]; omega
  have hL1 : L < 9223372036854775807 := by rw [← HLL.out]; omega
  clear A1 A2 A3 hb1 hb2 hb3 hg1 hg2 hg3 hb hK hcp hmx hah
  go_loopw [2] (fun sl wr => ∃ (k : Nat) (a' : Option Addr) (c' : Nat) (bl : List Int), 64 * k ≤ n ∧ sl = .slice a' (n - 64 * k) c' ∧ Rd w a' (n - 64 * k) c' (xs.drop (64 * k)) ∧ bl.length = 64 ∧ ShW w g1 g2 g3 (runB xs hs k) bl wr) (fun sl _ => lenV sl)
  case atStart => exact ⟨0, a, c, _, by omega, rfl, hR, rfl, HS⟩
  case round =>
    clear HS hR
    obtain ⟨k, a', c', bl, hk, rfl, hRw, hbl, HS⟩ := hrel
    obtain ⟨m, HM⟩ : ∃ m, Hid (n - 64 * k = m) := ⟨_, rfl⟩
    obtain ⟨ys, HY⟩ : ∃ ys, Hid (xs.drop (64 * k) = ys) := ⟨_, rfl⟩
    obtain ⟨h8, H8⟩ : ∃ h, Hid (runB xs hs k = h) := ⟨_, rfl⟩
    rw [HM.out, HY.out] at hRw
    have hR := hRw.carry (Nat.le_refl _) HS.b
    rw [H8.out] at HS
    rw [HM.out]
    have hcp := hR.cap
    have hmx : c' ≤ 9223372036854775807 := hR.most
    have hyl := hR.len
    have hmn : m ≤ 1000000000 := by rw [← HM.out]; omega
    have h8l : h8.length = 8 := by rw [← H8.out]; exact runB_len _ _ hh _
    by_cases h64 : 64 ≤ m
    · obtain ⟨b, off, rfl, _⟩ := hRw.flat (by omega)
      have hcl : (64 : Int) ≤ (m : Int) := by omega
      have hov : ov bl ys = ys.take 64 := by unfold ov; rw [hbl, List.drop_eq_nil_of_le (by omega), List.append_nil]
      have hbt : Bd (ys.take 64) := hR.bytes.take 64
      have htl : (ys.take 64).length = 64 := by rw [List.length_take]; omega
      have hml := mix_len h8 (ys.take 64) h8l
      have hi45 := (size_of Tryd.u45)
      have HYL : Hid (ys.length = m) := hyl
      clear hyl
      by_cases hce : c' = 64
      · subst hce
        obtain rfl : m = 64 := by omega
        go_wp2_with (first
          | (refine wp_copy_ar rfl (.tmp 20) (.tmp 21) rfl g3 64 64 rfl 142 bl HS.bk hbl _ 64 64 ys rfl hR ?_; intro w4 r4 A4 hk4 hs4; rw [hov] at A4)
          | (refine wp_load_ar rfl 117 (.tmp 3) rfl g1 rfl 117 .u32 h8 115 8 (HS.s.keep hk4 h13) Tryd.u45 h8l ?_)
          | (refine wp_load_ar rfl 142 (.tmp 8) rfl g3 rfl 142 .u8 (ys.take 64) 5 64 A4 Tryd.u55 htl ?_)
          | (go_at_call 89; refine (mixed_any h8 (ys.take 64) _ h8l htl hbt (HS.k.keep hk4 (by omega) (by omega))).mono ?_; rintro e w5 ⟨rfl, hb5⟩)
          | (refine wp_store_ar rfl 117 (.tmp 3) (.tmp 25) rfl g1 rfl .u32 (mix h8 (ys.take 64)) rfl 117 _ ((HS.s.keep hk4 h13).below hb5 (by have := HS.s.lt; omega)) (by rw [hml, h8l]) (by rw [hml]; exact hi45.2) ?_; intro w6 A6 hk6 hs6))
        have hs5 := hb5.size
        have hw : ShW w g1 g2 g3 (mix h8 (ys.take 64)) (ys.take 64) w6 := by
          have hl1 := HS.s.lt
          have hl2 := HS.o.lt
          have hl3 := HS.bk.lt
          have hb4 : Below w.heap.size w w4 := HS.b.trans (hk4.below HS.b.size (fun j hj => by omega))
          have hb5' : Below w.heap.size w w5 := hb4.trans (hb5.mono hb4.size)
          have hb6 : Below w.heap.size w w6 := hb5'.trans (hk6.below hb5'.size (fun j hj => by omega))
          exact ⟨((HS.k.keep hk4 (by omega) (by omega)).below (Nat.le_refl _) hb5).keep hk6 (by omega) (by omega), A6, ((HS.o.keep hk4 (by omega)).below hb5 (by omega)).keep hk6 (by omega), (A4.below hb5 (by omega)).keep hk6 (by omega), hb6⟩
        refine ⟨⟨k + 1, some ⟨b, off, none⟩, 0, _, by have := HM.out; omega, congrArg (fun x => Value.slice (some ⟨b, off, none⟩) x 0) (by have := HM.out; omega), ?_, htl, ?_⟩, by simp only [lenV]; omega⟩
        · rw [show n - 64 * (k + 1) = 0 from by have := HM.out; omega, show 64 * (k + 1) = 64 * k + 64 from by omega, ← List.drop_drop, HY.out, List.drop_eq_nil_of_le (by have := HYL.out; omega)]
          exact ⟨rfl, Nat.le_refl _, by unfold maxLen; omega, fun _ => rfl, Bd.nil, fun _ _ j hj => by omega⟩
        · show ShW w g1 g2 g3 (mix (runB xs hs k) ((xs.drop (64 * k)).take 64)) _ _
          rw [H8.out, HY.out]; exact hw
      · go_wp2_with (first
          | (refine wp_copy_ar rfl (.tmp 20) (.tmp 21) rfl g3 64 64 rfl 142 bl HS.bk hbl _ m c' ys rfl hR ?_; intro w4 r4 A4 hk4 hs4; rw [hov] at A4)
          | (refine wp_load_ar rfl 117 (.tmp 3) rfl g1 rfl 117 .u32 h8 115 8 (HS.s.keep hk4 h13) Tryd.u45 h8l ?_)
          | (refine wp_load_ar rfl 142 (.tmp 8) rfl g3 rfl 142 .u8 (ys.take 64) 5 64 A4 Tryd.u55 htl ?_)
          | (go_at_call 89; refine (mixed_any h8 (ys.take 64) _ h8l htl hbt (HS.k.keep hk4 (by omega) (by omega))).mono ?_; rintro e w5 ⟨rfl, hb5⟩)
          | (refine wp_store_ar rfl 117 (.tmp 3) (.tmp 25) rfl g1 rfl .u32 (mix h8 (ys.take 64)) rfl 117 _ ((HS.s.keep hk4 h13).below hb5 (by have := HS.s.lt; omega)) (by rw [hml, h8l]) (by rw [hml]; exact hi45.2) ?_; intro w6 A6 hk6 hs6))
        have hs5 := hb5.size
        have hw : ShW w g1 g2 g3 (mix h8 (ys.take 64)) (ys.take 64) w6 := by
          have hl1 := HS.s.lt
          have hl2 := HS.o.lt
          have hl3 := HS.bk.lt
          have hb4 : Below w.heap.size w w4 := HS.b.trans (hk4.below HS.b.size (fun j hj => by omega))
          have hb5' : Below w.heap.size w w5 := hb4.trans (hb5.mono hb4.size)
          have hb6 : Below w.heap.size w w6 := hb5'.trans (hk6.below hb5'.size (fun j hj => by omega))
          exact ⟨((HS.k.keep hk4 (by omega) (by omega)).below (Nat.le_refl _) hb5).keep hk6 (by omega) (by omega), A6, ((HS.o.keep hk4 (by omega)).below hb5 (by omega)).keep hk6 (by omega), (A4.below hb5 (by omega)).keep hk6 (by omega), hb6⟩
        refine ⟨⟨k + 1, _, _, _, by have := HM.out; omega, congrArg (fun x => Value.slice (some ⟨b, off + 64, none⟩) x (c' - 64)) (by have := HM.out; omega), ?_, htl, ?_⟩, by simp only [lenV]; omega⟩
        · rw [show n - 64 * (k + 1) = m - 64 from by have := HM.out; omega, show 64 * (k + 1) = 64 * k + 64 from by omega, ← List.drop_drop, HY.out]
          exact hRw.drop h64
        · show ShW w g1 g2 g3 (mix (runB xs hs k) ((xs.drop (64 * k)).take 64)) _ _
          rw [H8.out, HY.out]; exact hw
    · have hcl : ¬ (64 : Int) ≤ (m : Int) := by omega
      have hz55 : Tryd.prog.built 142 [] = some (ic .u8 (List.replicate 64 0)).toArray := by kernel_rfl
      have hi55 := (size_of Tryd.u55).2
      have hTE := ov_zero ys m hyl (by omega)
      have hol := ov_len (List.replicate 64 0) ys
      have hTl : (ys ++ (128 :: List.replicate (63 - m) 0)).length = 64 := by rw [List.length_append, hyl]; simp; omega
      have hTb : Bd (ys ++ (128 :: List.replicate (63 - m) 0)) := hR.bytes.append (bd_cons (by omega) (by omega) (bd_zeros _))
      have HYL : Hid (ys.length = m) := hyl
      have HXL : Hid (xs.length = 64 * k + m) := by have := HL.out; have := HM.out; exact (by omega : xs.length = 64 * k + m)
      have HXN : Hid (xs.length = n) := HL
      clear hyl HL
      obtain ⟨T1, HT1⟩ := hidE (ys ++ (128 :: List.replicate (63 - m) 0))
      obtain ⟨Z, HZ⟩ := hidE (List.replicate 64 0 : List Int)
      have hZl : Z.length = 64 := by rw [← HZ.out]; rfl
      rw [HT1.out] at hTl hTb hTE
      rw [HZ.out] at hz55 hTE hol
      have hols : (ov Z ys).length = 64 := by rw [hol]; exact hZl
      clear hol
      by_cases h56 : m < 56
      · have hcm : ¬ (56 : Int) ≤ (m : Int) := by omega
        go_wp2_with (first
          | (refine wp_build_ar rfl 142 rfl .u8 Z hz55 ?_)
          | (refine wp_store_ar rfl 142 (.tmp 8) (.tmp 28) rfl g3 rfl .u8 Z rfl 142 bl HS.bk (by rw [hbl, hZl]) (by rw [hZl]; exact hi55) ?_; intro w4 A4 hk4 hs4)
          | (refine wp_copy_ar rfl (.tmp 29) (.tmp 30) rfl g3 64 64 rfl 142 Z A4 hZl _ m c' ys rfl (hRw.carry (Nat.le_refl _) (HS.b.trans (hk4.below HS.b.size (fun q hq => by omega)))) ?_; intro w5 r5 A5 hk5 hs5; have hc5 := A5.cell (j := m) (by rw [hols]; omega); have hf5 := A5.fz m; generalize hxv : (ov Z ys).getD m 0 = xv at hc5; clear hxv))
        have HW : ShW w g1 g2 g3 h8 (lb T1 L 0) (w5.setCell ⟨g3, m, none⟩ (.int .u8 128)) := by
          have e4 : Below w.heap.size w w4 := HS.b.trans (hk4.below HS.b.size (fun q hq => by omega))
          have e5 : Below w.heap.size w w5 := e4.trans (hk5.below e4.size (fun q hq => by omega))
          refine ⟨((HS.k.keep hk4 (by omega) (by omega)).keep hk5 (by omega) (by omega)).keep (Keep.setCell (S := fun q => q = g3) (Keep.refl _ _) rfl _) (by omega) (by omega), ((HS.s.keep hk4 (by omega)).keep hk5 (by omega)).other (by omega) _, ((HS.o.keep hk4 (by omega)).keep hk5 (by omega)).other (by omega) _, ?_, e5.setCell (show w.heap.size ≤ g3 from hG3) _⟩
          have := A5.set m 128
          rw [hTE] at this; exact this
        clear A4 A5 hk4 hk5 hs4 hs5 hc5 hf5
        go_loopw [42] (fun i wr => ∃ j : Nat, j ≤ 8 ∧ i = .int .i64 j ∧ ShW w g1 g2 g3 h8 (lb T1 L j) wr) (fun i _ => 8 - (intOf i).toNat)
        case atStart => exact ⟨0, by omega, rfl, HW⟩
        case round =>
          clear HW HS
          obtain ⟨j, hj, rfl, HS⟩ := hrel
          by_cases hj8 : j < 8
          · have hcj : (j : Int) < 8 := by omega
            have hbl2 := lb_len T1 L j
            have hc := HS.bk.cell (j := 63 - j) (by rw [hbl2, hTl]; omega)
            have hf := HS.bk.fz (63 - j)
            generalize hxv : (lb T1 L j).getD (63 - j) 0 = xv at hc
            clear hxv hbl2 hTl
            go_wp2
            refine ⟨⟨j + 1, by omega, by go_num, ?_⟩, by simp [intOf]; omega⟩
            have := HS.bk.set (63 - j) (L / 2 ^ (8 * j) % 256)
            exact ⟨HS.k.keep (Keep.setCell (S := fun q => q = g3) (Keep.refl _ _) rfl _) (by omega) (by omega), HS.s.other (by omega) _, HS.o.other (by omega) _, this, HS.b.setCell (show w.heap.size ≤ g3 from hG3) _⟩
          · obtain rfl : j = 8 := by omega
            have hcj : ¬ ((8 : Nat) : Int) < 8 := by omega
            have hbl2 : (lb T1 L 8).length = 64 := by rw [lb_len, hTl]
            have hbd2 : Bd (lb T1 L 8) := lb_bd _ _ hTb 8
            have hml2 := mix_len h8 (lb T1 L 8) h8l
            have hbo := bo_len (mix h8 (lb T1 L 8)) 32
            have hi23 := (size_of Tryd.u23).2
            go_wp2_with (first
              | (refine wp_load_ar rfl 117 (.tmp 3) rfl g1 rfl 117 .u32 h8 115 8 HS.s Tryd.u45 h8l ?_)
              | (refine wp_load_ar rfl 142 (.tmp 8) rfl g3 rfl 142 .u8 (lb T1 L 8) 5 64 HS.bk Tryd.u55 hbl2 ?_)
              | (go_at_call 89; refine (mixed_any h8 (lb T1 L 8) _ h8l hbl2 hbd2 HS.k).mono ?_; rintro e w8 ⟨rfl, hb8⟩)
              | (go_at_call 90; refine (bytesOf_any (mix h8 (lb T1 L 8)) _ hml2).mono ?_; rintro e w9 ⟨rfl, hb9⟩)
              | (refine wp_store_ar rfl 26 (.tmp 6) (.tmp 57) rfl g2 rfl .u8 (bo (mix h8 (lb T1 L 8)) 32) rfl 26 _ ((HS.o.below hb8 HS.o.lt).below hb9 (Nat.lt_of_lt_of_le HS.o.lt hb8.size)) (by rw [hbo]; rfl) (by rw [hbo]; exact hi23) ?_; intro wE AE hkE hsE))
            refine bodyPost_ret (v := .agg (ic .u8 (bo (mix h8 (lb T1 L 8)) 32)).toArray) (ar_results rfl _ _ g2 26 .u8 _ 5 32 rfl AE Tryd.u23 hbo) rfl ⟨?_, ?_⟩
            · rw [end_lo ah k m n L xs ys hs h8 T1 HXN.out HXL.out h56 HY.out H8.out HT1.out HLL.out]
            · have e8 := HS.b.trans (hb8.mono HS.b.size)
              have e9 := e8.trans (hb9.mono e8.size)
              exact e9.trans (hkE.below e9.size (fun q hq => by omega))
      · have hcm : (56 : Int) ≤ (m : Int) := by omega
        have hml := mix_len h8 T1 h8l
        have hi45 := (size_of Tryd.u45).2
        go_wp2_with (first
          | (refine wp_build_ar rfl 142 rfl .u8 Z hz55 ?_)
          | (refine wp_store_ar rfl 142 (.tmp 8) (.tmp 28) rfl g3 rfl .u8 Z rfl 142 bl HS.bk (by rw [hbl, hZl]) (by rw [hZl]; exact hi55) ?_; intro w4 A4 hk4 hs4)
          | (refine wp_copy_ar rfl (.tmp 29) (.tmp 30) rfl g3 64 64 rfl 142 Z A4 hZl _ m c' ys rfl (hRw.carry (Nat.le_refl _) (HS.b.trans (hk4.below HS.b.size (fun q hq => by omega)))) ?_; intro w5 r5 A5 hk5 hs5; have hc5 := A5.cell (j := m) (by rw [hols]; omega); have hf5 := A5.fz m; generalize hxv : (ov Z ys).getD m 0 = xv at hc5; clear hxv)
          | (have AT : Ar (w5.setCell ⟨g3, m, none⟩ (.int .u8 128)) g3 142 .u8 T1 := (by have := A5.set m 128; rw [hTE] at this; exact this); have kT : Kt (w5.setCell ⟨g3, m, none⟩ (.int .u8 128)) := ((HS.k.keep hk4 (by omega) (by omega)).keep hk5 (by omega) (by omega)).keep (Keep.setCell (S := fun q => q = g3) (Keep.refl _ _) (p := ⟨g3, m, none⟩) rfl (.int .u8 128)) (by omega) (by omega); refine wp_load_ar rfl 117 (.tmp 3) rfl g1 rfl 117 .u32 h8 115 8 (((HS.s.keep hk4 (by omega)).keep hk5 (by omega)).other (by omega) _) Tryd.u45 h8l ?_)
          | (refine wp_load_ar rfl 142 (.tmp 8) rfl g3 rfl 142 .u8 T1 5 64 AT Tryd.u55 hTl ?_)
          | (go_at_call 89; refine (mixed_any h8 T1 _ h8l hTl hTb kT).mono ?_; rintro e w6 ⟨rfl, hb6⟩)
          | (refine wp_store_ar rfl 117 (.tmp 3) (.tmp 40) rfl g1 rfl .u32 (mix h8 T1) rfl 117 _ ((((HS.s.keep hk4 (by omega)).keep hk5 (by omega)).other (by omega) _).below hb6 (by have := HS.s.lt; simp [World.setCell]; omega)) (by rw [hml, h8l]) (by rw [hml]; exact hi45) ?_; intro w7 A7 hk7 hs7)
          | (refine wp_store_ar rfl 142 (.tmp 8) (.tmp 41) rfl g3 rfl .u8 Z rfl 142 T1 ((AT.below hb6 (by have := A5.lt; simp [World.setCell]; omega)).keep hk7 (by omega)) (by rw [hTl, hZl]) (by rw [hZl]; exact hi55) ?_; intro w8 A8 hk8 hs8))
        have HW : ShW w g1 g2 g3 (mix h8 T1) (lb Z L 0) w8 := by
          have e4 : Below w.heap.size w w4 := HS.b.trans (hk4.below HS.b.size (fun q hq => by omega))
          have e5 : Below w.heap.size w w5 := e4.trans (hk5.below e4.size (fun q hq => by omega))
          have e5' : Below w.heap.size w (w5.setCell ⟨g3, m, none⟩ (.int .u8 128)) := e5.setCell (show w.heap.size ≤ g3 from hG3) _
          have e6 := e5'.trans (hb6.mono e5'.size)
          have e7 : Below w.heap.size w w7 := e6.trans (hk7.below e6.size (fun q hq => by omega))
          have e8 : Below w.heap.size w w8 := e7.trans (hk8.below e7.size (fun q hq => by omega))
          have l1 := HS.s.lt
          have l2 := HS.o.lt
          have ls := hb6.size
          have lz : (w5.setCell ⟨g3, m, none⟩ (.int .u8 128)).heap.size = w5.heap.size := by simp [World.setCell]
          have kk := ((HS.k.keep hk4 (by omega) (by omega)).keep hk5 (by omega) (by omega)).keep (Keep.setCell (S := fun q => q = g3) (Keep.refl _ _) (p := ⟨g3, m, none⟩) rfl (.int .u8 128)) (by omega) (by omega)
          exact ⟨((kk.below (Nat.le_refl _) hb6).keep hk7 (by omega) (by omega)).keep hk8 (by omega) (by omega), A7.keep hk8 (by omega), (((((HS.o.keep hk4 (by omega)).keep hk5 (by omega)).other (by omega) _).below hb6 (by omega)).keep hk7 (by omega)).keep hk8 (by omega), A8, e8⟩
        clear A4 A5 A7 A8 hk4 hk5 hk7 hk8 hs4 hs5 hs7 hs8 hc5 hf5 hb6 AT kT
        have hTl : Z.length = 64 := hZl
        have hTb : Bd Z := by rw [← HZ.out]; exact bd_zeros 64
        go_loopw [42] (fun i wr => ∃ j : Nat, j ≤ 8 ∧ i = .int .i64 j ∧ ShW w g1 g2 g3 (mix h8 T1) (lb Z L j) wr) (fun i _ => 8 - (intOf i).toNat)
        case atStart => exact ⟨0, by omega, rfl, HW⟩
        case round =>
          clear HW HS
          obtain ⟨j, hj, rfl, HS⟩ := hrel
          by_cases hj8 : j < 8
          · have hcj : (j : Int) < 8 := by omega
            have hbl2 := lb_len Z L j
            have hc := HS.bk.cell (j := 63 - j) (by rw [hbl2, hTl]; omega)
            have hf := HS.bk.fz (63 - j)
            generalize hxv : (lb Z L j).getD (63 - j) 0 = xv at hc
            clear hxv hbl2 hTl
            go_wp2
            refine ⟨⟨j + 1, by omega, by go_num, ?_⟩, by simp [intOf]; omega⟩
            have := HS.bk.set (63 - j) (L / 2 ^ (8 * j) % 256)
            exact ⟨HS.k.keep (Keep.setCell (S := fun q => q = g3) (Keep.refl _ _) rfl _) (by omega) (by omega), HS.s.other (by omega) _, HS.o.other (by omega) _, this, HS.b.setCell (show w.heap.size ≤ g3 from hG3) _⟩
          · obtain rfl : j = 8 := by omega
            have hcj : ¬ ((8 : Nat) : Int) < 8 := by omega
            have hbl2 : (lb Z L 8).length = 64 := by rw [lb_len, hTl]
            have hbd2 : Bd (lb Z L 8) := lb_bd _ _ hTb 8
            have hml2 := mix_len (mix h8 T1) (lb Z L 8) hml
            have hbo := bo_len (mix (mix h8 T1) (lb Z L 8)) 32
            have hi23 := (size_of Tryd.u23).2
            go_wp2_with (first
              | (refine wp_load_ar rfl 117 (.tmp 3) rfl g1 rfl 117 .u32 (mix h8 T1) 115 8 HS.s Tryd.u45 hml ?_)
              | (refine wp_load_ar rfl 142 (.tmp 8) rfl g3 rfl 142 .u8 (lb Z L 8) 5 64 HS.bk Tryd.u55 hbl2 ?_)
              | (go_at_call 89; refine (mixed_any (mix h8 T1) (lb Z L 8) _ hml hbl2 hbd2 HS.k).mono ?_; rintro e w8 ⟨rfl, hb8⟩)
              | (go_at_call 90; refine (bytesOf_any (mix (mix h8 T1) (lb Z L 8)) _ hml2).mono ?_; rintro e w9 ⟨rfl, hb9⟩)
              | (refine wp_store_ar rfl 26 (.tmp 6) (.tmp 57) rfl g2 rfl .u8 (bo (mix (mix h8 T1) (lb Z L 8)) 32) rfl 26 _ ((HS.o.below hb8 HS.o.lt).below hb9 (Nat.lt_of_lt_of_le HS.o.lt hb8.size)) (by rw [hbo]; rfl) (by rw [hbo]; exact hi23) ?_; intro wE AE hkE hsE))
            refine bodyPost_ret (v := .agg (ic .u8 (bo (mix (mix h8 T1) (lb Z L 8)) 32)).toArray) (ar_results rfl _ _ g2 26 .u8 _ 5 32 rfl AE Tryd.u23 hbo) rfl ⟨?_, ?_⟩
            · rw [end_hi ah k m n L xs ys hs h8 T1 Z HXN.out HXL.out (by omega) (by omega) HY.out H8.out HT1.out HZ.out HLL.out]
            · have e8 := HS.b.trans (hb8.mono HS.b.size)
              have e9 := e8.trans (hb9.mono e8.size)
              exact e9.trans (hkE.below e9.size (fun q hq => by omega))

end Go.Proofs.YtiidjdedeenijaaDoor

/- digest.Sha, Equal; copies. -/
set_option maxRecDepth 100000
namespace Go.Proofs.YtiidjdedeenijaaDoor
open Go.RowKit

theorem shaB_len (ah : Nat) (hs xs : List Int) : (shaB ah hs xs).length = 32 := bo_len _ _
theorem bo_bd (hs : List Int) : ∀ i, Bd (bo hs i)
  | 0 => bd_zeros 32
  | i + 1 => by unfold bo; exact (bo_bd hs i).set _ (by omega) (by omega)
theorem shaB_bd (ah : Nat) (hs xs : List Int) : Bd (shaB ah hs xs) := bo_bd _ _

set_option maxRecDepth 100000 in
set_option maxHeartbeats 800000 in
theorem sha_any (a : Option Addr) (n c : Nat) (xs : List Int) (w : World) (hR : Rd w a n c xs) (hn : n ≤ 1000000000) (hK : Kt w) :
    Calls Tryd.prog 45 #[.slice a n c] w fun e w' => e = .returned (.agg (ic .u8 (sha xs)).toArray) ∧ Below w.heap.size w w' := by
  have hi45 := (size_of Tryd.u45)
  have hi23 := (size_of Tryd.u23).2
  have hl := shaB_len 0 h0s xs
  go_enter Tryd.func45, Tryd.ntmps45
  go_wp2_with (first
    | (refine wp_alloc_ar rfl 26 rfl .u8 (List.replicate 32 0) 32 Tryd.z23 ?_; intro g1 w1 A1 hg1 hb1)
    | (refine wpList_load_mid rfl 117 (.global 2) rfl _ 0 rfl (ic .u32 h0s) _ (hK.below (Nat.le_refl _) hb1).load hi45.1 rfl hi45.2 ?_)
    | (go_at_call 70; refine (shaBehind_any h0s 0 a n c xs _ rfl (by omega) (hR.carry (Nat.le_refl _) hb1) hn (hK.below (Nat.le_refl _) hb1)).mono ?_; rintro e w2 ⟨rfl, hb2⟩)
    | (refine wp_store_ar rfl 26 (.tmp 2) (.tmp 5) rfl g1 rfl .u8 (shaB 0 h0s xs) rfl 26 _ (A1.below hb2 A1.lt) (by rw [hl]; rfl) (by rw [hl]; exact hi23) ?_; intro w3 A3 hk3 hs3))
  refine bodyPost_ret (v := .agg (ic .u8 (sha xs)).toArray) (ar_results rfl _ _ g1 26 .u8 _ 5 32 rfl A3 Tryd.u23 hl) rfl ⟨rfl, ?_⟩
  have e2 := hb1.trans (hb2.mono hb1.size)
  exact e2.trans (hk3.below e2.size (fun q hq => by omega))

/-! ### Equal -/
theorem or8_zero {a b : Int} (h1 : 0 ≤ a ∧ a ≤ 255) (h2 : 0 ≤ b ∧ b ≤ 255) : bits .or .u8 a b = 0 ↔ a = 0 ∧ b = 0 := by
  rw [u8_or a b h1.1 (by omega) h2.1 (by omega)]
  have := @Nat.or_eq_zero_iff a.toNat b.toNat
  omega
theorem xor8_zero {a b : Int} (h1 : 0 ≤ a ∧ a ≤ 255) (h2 : 0 ≤ b ∧ b ≤ 255) : bits .xor .u8 a b = 0 ↔ a = b := by
  rw [u8_xor a b h1.1 (by omega) h2.1 (by omega)]
  have h : a.toNat ^^^ b.toNat = 0 ↔ a.toNat = b.toNat := by
    constructor
    · intro h
      have := congrArg (· ^^^ b.toNat) h
      simpa [Nat.xor_assoc] using this
    · intro h; rw [h, Nat.xor_self]
  omega
theorem take_snocI (xs : List Int) (k : Nat) (h : k < xs.length) : xs.take (k + 1) = xs.take k ++ [xs.getD k 0] := by
  rw [List.take_succ_eq_append_getElem h]; simp [List.getD, h]

end Go.Proofs.YtiidjdedeenijaaDoor
