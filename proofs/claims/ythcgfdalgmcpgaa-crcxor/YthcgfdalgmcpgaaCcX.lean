/- CrcXor, walked. -/
import Derived.Test.YthcgfdalgmcpgaaCcQ
import Derived.Test.YthcgfdalgmcpgaaLate
import Derived.Laws.MakeOwn
namespace Go.Proofs.Ythcgfdalgmcpgaa
open Go.RowKit

def zerW (n : Nat) : List Int := List.replicate n 0
theorem made_zerW (n : Nat) : (madeCells (Value.int .u8 0).cells n).toList = bc (zerW n) := by
  unfold madeCells bc zerW
  rw [List.map_replicate]
  have h : ∀ i, (Value.int .u8 0).cells[i % (Value.int .u8 0).cells.size]! = Value.int .u8 0 := by
    intro i
    have : (Value.int .u8 0).cells = #[Value.int .u8 0] := rfl
    rw [this]
    simp [Nat.mod_one]
  simp only [h]
  apply List.ext_getElem
  · simp
  · intro i h1 h2
    simp
theorem zerW_bd (n : Nat) : Bd (zerW n) := fun x hx => by simp [zerW] at hx; omega
theorem run_mkW (w : World) (n : Nat) (hn : n ≤ 1000000) : ∃ w', (Instr.makeSlice 23 (.int .i64 n) (.int .i64 n)).run Try.prog w = .ok (.slice (some ⟨w.heap.size, 0, none⟩) n n) w' ∧ Rd w' (some ⟨w.heap.size, 0, none⟩) n n (zerW n) ∧ (∀ j, w'.frozen? ⟨w.heap.size, j, none⟩ = false) ∧ Below w.heap.size w w' := by
  obtain ⟨i0, hi, hz0, hz1, hz2⟩ := info_parts Try.info5
  obtain ⟨w', h1, h2, h3⟩ := run_make_full w w.heap.size 23 5 i0 (.int .u8 0) 1 Try.underlying23 hi hz0 hz1 .i64 .i64 n (by rw [hz2]; omega) (by unfold maxLen; omega) (Nat.le_refl _)
  rw [Nat.mul_one, made_zerW] at h2
  refine ⟨w', h1, own_rd h2 (zerW_bd n), fun j => ?_, (Below.refl _ _).grown h3 (Nat.le_refl _) (fun k hk => by cases hk)⟩
  rcases h2.2 with ⟨h, _⟩ | ⟨g, cap, cur, hv, hg, hh, _⟩
  · cases h
  · cases hv; exact frozen_of_row w' _ j cur _ hh

/-- The row behind i rounds. -/
def wv (X Y Z : List Int) (n i : Nat) : List Int := x3 (X.take i) (Y.take i) (Z.take i) ++ zerW (n - i)
theorem x3_snoc (x y z : Int) : ∀ (A B C : List Int), A.length = B.length → B.length = C.length → x3 (A ++ [x]) (B ++ [y]) (C ++ [z]) = x3 A B C ++ [bits .xor .u8 (bits .xor .u8 x y) z]
  | [], [], [], _, _ => rfl
  | a :: A, b :: B, c :: C, h1, h2 => by
    have := x3_snoc x y z A B C (by simpa using h1) (by simpa using h2)
    show _ :: x3 (A ++ [x]) (B ++ [y]) (C ++ [z]) = _
    rw [this]; rfl
  | [], _ :: _, _, h, _ => by cases h
  | _ :: _, [], _, h, _ => by cases h
  | _, [], _ :: _, _, h => by cases h
  | _, _ :: _, [], _, h => by cases h
theorem wv_zero (X Y Z : List Int) (n : Nat) : wv X Y Z n 0 = zerW n := by simp [wv, x3]
theorem takeS (X : List Int) (i : Nat) (h : i < X.length) : X.take (i + 1) = X.take i ++ [X.getD i 0] := by
  rw [List.take_succ_eq_append_getElem h]; simp [List.getD, List.getElem?_eq_getElem h]
theorem wv_succ (X Y Z : List Int) (n i : Nat) (hi : i < n) (h1 : n ≤ X.length) (h2 : n ≤ Y.length) (h3 : n ≤ Z.length) :
    wv X Y Z n (i + 1) = (wv X Y Z n i).set i (bits .xor .u8 (bits .xor .u8 (X.getD i 0) (Y.getD i 0)) (Z.getD i 0)) := by
  unfold wv
  have l1 : (X.take i).length = (Y.take i).length := by simp; omega
  have l2 : (Y.take i).length = (Z.take i).length := by simp; omega
  have l3 : (x3 (X.take i) (Y.take i) (Z.take i)).length = i := by rw [x3_len _ _ _ l1 l2, List.length_take]; omega
  rw [takeS X i (by omega), takeS Y i (by omega), takeS Z i (by omega), x3_snoc _ _ _ _ _ _ l1 l2, List.set_append, if_neg (by omega), l3, Nat.sub_self]
  rw [show n - i = (n - (i + 1)) + 1 by omega]
  simp [zerW, List.replicate_succ]
theorem wv_last (X Y Z : List Int) (n : Nat) : wv X Y Z n n = x3 (X.take n) (Y.take n) (Z.take n) := by simp [wv, zerW]
theorem cells_of {w : World} {g n c : Nat} {xs : List Int} (h : Rd w (some ⟨g, 0, none⟩) n c xs) {j : Nat} (hj : j < n) : w.cell? ⟨g, j, none⟩ = some (.int .u8 (xs.getD j 0)) := by
  have := h.cells _ rfl j hj
  rw [add_flat, Nat.zero_add] at this
  exact this

namespace crcXor
set_option maxRecDepth 100000 in
set_option maxHeartbeats 25600000 in
theorem walk (a : Option Addr) (n c : Nat) (xs : List Int) (a' : Option Addr) (n' c' : Nat) (ys : List Int) (aZ : Option Addr) (nZ cZ : Nat) (zs : List Int) (w : World) (hR : Rd w a n c xs) (hR' : Rd w a' n' c' ys) (hRZ : Rd w aZ nZ cZ zs) :
    Calls Try.prog 6 #[.slice a n c, .slice a' n' c', .slice aZ nZ cZ] w fun e w' => e = .returned (.bool true) ∧ Below w.heap.size w w' := by
  obtain ⟨X, HX⟩ : ∃ X, Hid (xs.take 1000 = X) := ⟨_, rfl⟩
  obtain ⟨Y, HY⟩ : ∃ Y, Hid (ys.take 1000 = Y) := ⟨_, rfl⟩
  obtain ⟨Z, HZ⟩ : ∃ Z, Hid (zs.take 1000 = Z) := ⟨_, rfl⟩
  have hF := fun u (h : Rd u a n c xs) => fewF a n c xs u h
  have hF' := fun u (h : Rd u a' n' c' ys) => fewF a' n' c' ys u h
  have hFZ := fun u (h : Rd u aZ nZ cZ zs) => fewF aZ nZ cZ zs u h
  simp only [HX.out] at hF
  simp only [HY.out] at hF'
  simp only [HZ.out] at hFZ
  go_enter Try.func6, Try.ntmps6
  go_wp2_with fail
  refine (hF _ hR).mono ?_
  rintro e w1 ⟨g1, n1, c1, rfl, hn1, ho1, bX, hb1⟩
  go_wp2_with fail
  refine (hF' _ (hR'.carry (Nat.le_refl _) hb1)).mono ?_
  rintro e w2 ⟨g2, n2, c2, rfl, hn2, ho2, bY, hb2'⟩
  have hb2 := hb1.trans (hb2'.mono hb1.size)
  go_wp2_with fail
  refine (hFZ _ (hRZ.carry (Nat.le_refl _) hb2)).mono ?_
  rintro e w3 ⟨g3, n3, c3, rfl, hn3, ho3, bZ, hb3'⟩
  have hb3 := hb2.trans (hb3'.mono hb2.size)
  have hr3 := own_rd ho3 bZ
  have hr2 := (own_rd ho2 bY).carry (Nat.le_refl _) hb3'
  have hr1 := ((own_rd ho1 bX).carry (Nat.le_refl _) hb2').carry (Nat.le_refl _) hb3'
  have HB3 : Hid (Below w.heap.size w w3) := hb3
  have bX' : Hid (Bd X) := bX
  have bY' : Hid (Bd Y) := bY
  have bZ' : Hid (Bd Z) := bZ
  have lX : Hid (X.length = n1) := hr1.len
  have lY : Hid (Y.length = n2) := hr2.len
  have lZ : Hid (Z.length = n3) := hr3.len
  have q1 := hr1.cap
  have q2 := hr2.cap
  have q3 := hr3.cap
  have m1 : c1 ≤ 9223372036854775807 := hr1.most
  have m2 : c2 ≤ 9223372036854775807 := hr2.most
  have m3 : c3 ≤ 9223372036854775807 := hr3.most
  have H1 : Hid (Rd w3 (some ⟨g1, 0, none⟩) n1 c1 X) := hr1
  have H2 : Hid (Rd w3 (some ⟨g2, 0, none⟩) n2 c2 Y) := hr2
  have H3 : Hid (Rd w3 (some ⟨g3, 0, none⟩) n3 c3 Z) := hr3
  clear hF hF' hFZ hR hR' hRZ ho1 ho2 ho3 hb1 hb2 hb2' hb3 hb3' hr1 hr2 hr3 bX bY bZ HX HY HZ
  by_cases h12 : (n2 : Int) < (n1 : Int)
  · by_cases h3 : (n3 : Int) < (n2 : Int)
    · have L1 : n3 ≤ n1 := by omega
      have L2 : n3 ≤ n2 := by omega
      have L3 : n3 ≤ n3 := by omega
      obtain ⟨w4, hmk, hr4, hf4, hb4⟩ := run_mkW w3 n3 (by omega)
      obtain ⟨g4, Hg4⟩ : ∃ g, Hid (w3.heap.size = g) := ⟨_, rfl⟩
      rw [Hg4.out] at hmk hr4 hf4
      go_wp2_with fail
      have hbw : Below w3.heap.size w3 w4 := hb4
      clear hmk hb4
      go_loopw [12] (fun i wr => ∃ j : Nat, j ≤ n3 ∧ i = .int .i64 j ∧ Hid (Rd wr (some ⟨g4, 0, none⟩) n3 n3 (wv X Y Z n3 j)) ∧ Hid (∀ q, wr.frozen? ⟨g4, q, none⟩ = false) ∧ Hid (Below w3.heap.size w3 wr)) (fun i _ => n3 - (intOf i).toNat)
      case atStart => exact ⟨0, by omega, rfl, by rw [wv_zero]; exact hr4, hf4, hbw⟩
      case round =>
        obtain ⟨j, hj, rfl, HW4, HF, HB⟩ := hrel
        clear hr4 hf4 hbw
        by_cases hlt : j < n3
        · have hcl : (j : Int) < (n3 : Int) := by omega
          have hc1 : (j : Int) < (n1 : Int) := by omega
          have hc2 : (j : Int) < (n2 : Int) := by omega
          have hc3 : (j : Int) < (n3 : Int) := by omega
          have HB' : Hid (Below w3.heap.size w3 wr.drew) := HB.out.drew
          have HF' : Hid (∀ q, wr.drew.frozen? ⟨g4, q, none⟩ = false) := HF.out
          have HY' : Rd wr.drew (some ⟨g4, 0, none⟩) n3 n3 (wv X Y Z n3 j) := rd_drew HW4.out
          have d1 := cells_of (H1.out.carry (Nat.le_refl _) HB'.out) (j := j) (by omega)
          have d2 := cells_of (H2.out.carry (Nat.le_refl _) HB'.out) (j := j) (by omega)
          have d3 := cells_of (H3.out.carry (Nat.le_refl _) HB'.out) (j := j) (by omega)
          have d4 := cells_of HY' hlt
          have b8 := bits8 .xor (bits .xor .u8 (X.getD j 0) (Y.getD j 0)) (Z.getD j 0)
          have HN' : Hid (Rd (wr.drew.setCell ⟨g4, j, none⟩ (.int .u8 (bits .xor .u8 (bits .xor .u8 (X.getD j 0) (Y.getD j 0)) (Z.getD j 0)))) (some ⟨g4, 0, none⟩) n3 n3 (wv X Y Z n3 (j + 1))) := by
            show Rd _ _ _ _ _
            rw [wv_succ X Y Z n3 j hlt (by rw [lX.out]; exact L1) (by rw [lY.out]; exact L2) (by rw [lZ.out]; exact L3)]
            exact HY'.setAt hlt b8.1 b8.2
          have hf := HF'.out j
          obtain ⟨x, E1⟩ : ∃ x, Hid (X.getD j 0 = x) := ⟨_, rfl⟩
          obtain ⟨y, E2⟩ : ∃ x, Hid (Y.getD j 0 = x) := ⟨_, rfl⟩
          obtain ⟨z, E3⟩ : ∃ x, Hid (Z.getD j 0 = x) := ⟨_, rfl⟩
          obtain ⟨o, E4⟩ : ∃ x, Hid ((wv X Y Z n3 j).getD j 0 = x) := ⟨_, rfl⟩
          rw [E1.out] at d1 HN'
          rw [E2.out] at d2 HN'
          rw [E3.out] at d3 HN'
          rw [E4.out] at d4
          clear b8 HY' HW4 HF HB E1 E2 E3 E4 hlt
          go_wp2_with fail
          refine wp_region_lx (fun w' => w' = wr.drew) [17] 18 (by kernel_rfl) (by kernel_rfl) ?_
          obtain ⟨W, HW⟩ : ∃ W, Hid (wr.drew = W) := ⟨_, rfl⟩
          rw [HW.out] at HF' HB' HN' d1 d2 d3 d4 hf ⊢
          have HS0 : W = W := rfl
          refine lx_rd 0 ?vAq00 (by kernel_rfl) (fun _ _ d _ _ h => by cases d <;> exact h) (by kernel_rfl) HS0 rfl rfl rfl (fun w' hS => ?hAq00) ?_
          case hAq00 => first | (go_simp; rfl) | (go_simp; done) | (go_simp; exact idx_ok (by omega) (by omega)) | (go_simp; exact wi64' (by omega) (by omega) (by omega)) | (go_simp; intro hh; exfalso; omega)
          simp only [List.setIfInBounds_toArray, List.set_cons_zero, List.set_cons_succ]
          refine lx_rd 1 ?vAq01 (by kernel_rfl) (fun _ _ d _ _ h => by cases d <;> exact h) (by kernel_rfl) HS0 rfl rfl rfl (fun w' hS => ?hAq01) ?_
          case hAq01 => first | (go_simp; rfl) | (go_simp; done) | (go_simp; exact idx_ok (by omega) (by omega)) | (go_simp; exact wi64' (by omega) (by omega) (by omega)) | (go_simp; intro hh; exfalso; omega)
          simp only [List.setIfInBounds_toArray, List.set_cons_zero, List.set_cons_succ]
          refine lx_rd 2 ?vAq02 (by kernel_rfl) (fun _ _ d _ _ h => by cases d <;> exact h) (by kernel_rfl) HS0 rfl rfl rfl (fun w' hS => ?hAq02) ?_
          case hAq02 => first | (go_simp; rfl) | (go_simp; done) | (go_simp; exact idx_ok (by omega) (by omega)) | (go_simp; exact wi64' (by omega) (by omega) (by omega)) | (go_simp; intro hh; exfalso; omega)
          simp only [List.setIfInBounds_toArray, List.set_cons_zero, List.set_cons_succ]
          refine lx_rd 3 ?vAq03 (by kernel_rfl) (fun _ _ d _ _ h => by cases d <;> exact h) (by kernel_rfl) HS0 rfl rfl rfl (fun w' hS => ?hAq03) ?_
          case hAq03 => first | (go_simp; rfl) | (go_simp; done) | (go_simp; exact idx_ok (by omega) (by omega)) | (go_simp; exact wi64' (by omega) (by omega) (by omega)) | (go_simp; intro hh; exfalso; omega)
          simp only [List.setIfInBounds_toArray, List.set_cons_zero, List.set_cons_succ]
          refine lx_rd 4 (.pointer (some ⟨g1, j, none⟩)) (by kernel_rfl) (fun _ _ d _ _ h => by cases d <;> exact h) (by kernel_rfl) HS0 rfl rfl rfl (fun w' hS => ?hAq04) ?_
          case hAq04 => first | (go_simp; rfl) | (go_simp; done) | (go_simp; exact idx_ok (by omega) (by omega)) | (go_simp; exact wi64' (by omega) (by omega) (by omega)) | (go_simp; intro hh; exfalso; omega)
          simp only [List.setIfInBounds_toArray, List.set_cons_zero, List.set_cons_succ]
          refine lx_rd 5 (.int .u8 x) (by kernel_rfl) (fun _ _ d _ _ h => by cases d <;> exact h) (by kernel_rfl) HS0 rfl rfl rfl (fun w' hS => ?hAq05) ?_
          case hAq05 => subst hS; first | (go_simp; rfl) | (go_simp; done) | (go_simp; exact idx_ok (by omega) (by omega)) | (go_simp; exact wi64' (by omega) (by omega) (by omega)) | (go_simp; intro hh; exfalso; omega)
          simp only [List.setIfInBounds_toArray, List.set_cons_zero, List.set_cons_succ]
          refine lx_rd 6 ?vAq06 (by kernel_rfl) (fun _ _ d _ _ h => by cases d <;> exact h) (by kernel_rfl) HS0 rfl rfl rfl (fun w' hS => ?hAq06) ?_
          case hAq06 => first | (go_simp; rfl) | (go_simp; done) | (go_simp; exact idx_ok (by omega) (by omega)) | (go_simp; exact wi64' (by omega) (by omega) (by omega)) | (go_simp; intro hh; exfalso; omega)
          simp only [List.setIfInBounds_toArray, List.set_cons_zero, List.set_cons_succ]
          refine lx_rd 7 ?vAq07 (by kernel_rfl) (fun _ _ d _ _ h => by cases d <;> exact h) (by kernel_rfl) HS0 rfl rfl rfl (fun w' hS => ?hAq07) ?_
          case hAq07 => first | (go_simp; rfl) | (go_simp; done) | (go_simp; exact idx_ok (by omega) (by omega)) | (go_simp; exact wi64' (by omega) (by omega) (by omega)) | (go_simp; intro hh; exfalso; omega)
          simp only [List.setIfInBounds_toArray, List.set_cons_zero, List.set_cons_succ]
          refine lx_rd 8 (.pointer (some ⟨g2, j, none⟩)) (by kernel_rfl) (fun _ _ d _ _ h => by cases d <;> exact h) (by kernel_rfl) HS0 rfl rfl rfl (fun w' hS => ?hAq08) ?_
          case hAq08 => first | (go_simp; rfl) | (go_simp; done) | (go_simp; exact idx_ok (by omega) (by omega)) | (go_simp; exact wi64' (by omega) (by omega) (by omega)) | (go_simp; intro hh; exfalso; omega)
          simp only [List.setIfInBounds_toArray, List.set_cons_zero, List.set_cons_succ]
          refine lx_rd 9 (.int .u8 y) (by kernel_rfl) (fun _ _ d _ _ h => by cases d <;> exact h) (by kernel_rfl) HS0 rfl rfl rfl (fun w' hS => ?hAq09) ?_
          case hAq09 => subst hS; first | (go_simp; rfl) | (go_simp; done) | (go_simp; exact idx_ok (by omega) (by omega)) | (go_simp; exact wi64' (by omega) (by omega) (by omega)) | (go_simp; intro hh; exfalso; omega)
          simp only [List.setIfInBounds_toArray, List.set_cons_zero, List.set_cons_succ]
          refine lx_rd 10 (.int .u8 (bits .xor .u8 x y)) (by kernel_rfl) (fun _ _ d _ _ h => by cases d <;> exact h) (by kernel_rfl) HS0 rfl rfl rfl (fun w' hS => ?hAq010) ?_
          case hAq010 => first | (go_simp; rfl) | (go_simp; done) | (go_simp; exact idx_ok (by omega) (by omega)) | (go_simp; exact wi64' (by omega) (by omega) (by omega)) | (go_simp; intro hh; exfalso; omega)
          simp only [List.setIfInBounds_toArray, List.set_cons_zero, List.set_cons_succ]
          refine lx_rd 11 ?vAq011 (by kernel_rfl) (fun _ _ d _ _ h => by cases d <;> exact h) (by kernel_rfl) HS0 rfl rfl rfl (fun w' hS => ?hAq011) ?_
          case hAq011 => first | (go_simp; rfl) | (go_simp; done) | (go_simp; exact idx_ok (by omega) (by omega)) | (go_simp; exact wi64' (by omega) (by omega) (by omega)) | (go_simp; intro hh; exfalso; omega)
          simp only [List.setIfInBounds_toArray, List.set_cons_zero, List.set_cons_succ]
          refine lx_rd 12 ?vAq012 (by kernel_rfl) (fun _ _ d _ _ h => by cases d <;> exact h) (by kernel_rfl) HS0 rfl rfl rfl (fun w' hS => ?hAq012) ?_
          case hAq012 => first | (go_simp; rfl) | (go_simp; done) | (go_simp; exact idx_ok (by omega) (by omega)) | (go_simp; exact wi64' (by omega) (by omega) (by omega)) | (go_simp; intro hh; exfalso; omega)
          simp only [List.setIfInBounds_toArray, List.set_cons_zero, List.set_cons_succ]
          refine lx_rd 13 (.pointer (some ⟨g3, j, none⟩)) (by kernel_rfl) (fun _ _ d _ _ h => by cases d <;> exact h) (by kernel_rfl) HS0 rfl rfl rfl (fun w' hS => ?hAq013) ?_
          case hAq013 => first | (go_simp; rfl) | (go_simp; done) | (go_simp; exact idx_ok (by omega) (by omega)) | (go_simp; exact wi64' (by omega) (by omega) (by omega)) | (go_simp; intro hh; exfalso; omega)
          simp only [List.setIfInBounds_toArray, List.set_cons_zero, List.set_cons_succ]
          refine lx_rd 14 (.int .u8 z) (by kernel_rfl) (fun _ _ d _ _ h => by cases d <;> exact h) (by kernel_rfl) HS0 rfl rfl rfl (fun w' hS => ?hAq014) ?_
          case hAq014 => subst hS; first | (go_simp; rfl) | (go_simp; done) | (go_simp; exact idx_ok (by omega) (by omega)) | (go_simp; exact wi64' (by omega) (by omega) (by omega)) | (go_simp; intro hh; exfalso; omega)
          simp only [List.setIfInBounds_toArray, List.set_cons_zero, List.set_cons_succ]
          refine lx_rd 15 (.int .u8 (bits .xor .u8 (bits .xor .u8 x y) z)) (by kernel_rfl) (fun _ _ d _ _ h => by cases d <;> exact h) (by kernel_rfl) HS0 rfl rfl rfl (fun w' hS => ?hAq015) ?_
          case hAq015 => first | (go_simp; rfl) | (go_simp; done) | (go_simp; exact idx_ok (by omega) (by omega)) | (go_simp; exact wi64' (by omega) (by omega) (by omega)) | (go_simp; intro hh; exfalso; omega)
          simp only [List.setIfInBounds_toArray, List.set_cons_zero, List.set_cons_succ]
          refine lx_rd 16 (.pointer (some ⟨g4, j, none⟩)) (by kernel_rfl) (fun _ _ d _ _ h => by cases d <;> exact h) (by kernel_rfl) HS0 rfl rfl rfl (fun w' hS => ?hAq016) ?_
          case hAq016 => first | (go_simp; rfl) | (go_simp; done) | (go_simp; exact idx_ok (by omega) (by omega)) | (go_simp; exact wi64' (by omega) (by omega) (by omega)) | (go_simp; intro hh; exfalso; omega)
          simp only [List.setIfInBounds_toArray, List.set_cons_zero, List.set_cons_succ]
          refine lx_one 17 (by kernel_rfl) (stepT_store (w' := W.setCell ⟨g4, j, none⟩ (.int .u8 (bits .xor .u8 (bits .xor .u8 x y) z))) rfl rfl rfl ?r17q0 (fun h => by cases h) ?_)
          case r17q0 => first | (go_simp; rfl) | go_simp
          refine lx_nil (by kernel_rfl) ?_
          go_wp2_with fail
          exact ⟨⟨j + 1, by omega, by go_num, HN', fun q => frozen_setCell W _ _ g4 q HF'.out, HB'.out.setCell (show w3.heap.size ≤ g4 from Nat.le_of_eq Hg4.out) _⟩, by simp [intOf]; omega⟩
        · obtain rfl : j = n3 := by omega
          have hcl : ¬ (j : Int) < (j : Int) := by omega
          have HX3 : Hid (more 0#32 (wv X Y Z j j) = more 0#32 (X.take j) ^^^ more 0#32 (Y.take j) ^^^ more 0#32 (Z.take j)) := by
            show _ = _
            rw [wv_last]
            have k1 := lX.out
            have k2 := lY.out
            have k3 := lZ.out
            exact more_x3 _ _ _ (by simp; omega) (by simp; omega) (bX'.out.take _) (bY'.out.take _) (bZ'.out.take _)
          have B0 := HB.out.drew
          have r1 := (H1.out.carry (Nat.le_refl _) B0).takeK L1
          have r2 := (H2.out.carry (Nat.le_refl _) B0).takeK L2
          have r3 := (H3.out.carry (Nat.le_refl _) B0).takeK L3
          have r4 := rd_drew HW4.out
          have x12 := xor_uw (more 0#32 (X.take j)) (more 0#32 (Y.take j))
          have x123 := xor_uw (more 0#32 (X.take j) ^^^ more 0#32 (Y.take j)) (more 0#32 (Z.take j))
          rw [← HX3.out] at x123
          generalize X.take j = A1 at r1 x12 x123
          generalize Y.take j = A2 at r2 x12 x123
          generalize Z.take j = A3 at r3 x123
          generalize wv X Y Z j j = A4 at r4 x123
          clear HX3 H1 H2 H3 HW4 HF lX lY lZ bX' bY' bZ' Hg4
          obtain ⟨u1, U1⟩ : ∃ x, Hid (uw (more 0#32 A1) = x) := ⟨_, rfl⟩
          obtain ⟨u2, U2⟩ : ∃ x, Hid (uw (more 0#32 A2) = x) := ⟨_, rfl⟩
          obtain ⟨u3, U3⟩ : ∃ x, Hid (uw (more 0#32 A3) = x) := ⟨_, rfl⟩
          obtain ⟨u4, U4⟩ : ∃ x, Hid (uw (more 0#32 A4) = x) := ⟨_, rfl⟩
          obtain ⟨u5, U5⟩ : ∃ x, Hid (uw (more 0#32 A1 ^^^ more 0#32 A2) = x) := ⟨_, rfl⟩
          rw [U1.out, U2.out, U5.out] at x12
          rw [U5.out, U3.out, U4.out] at x123
          go_wp2_with fail
          refine wp_region_lx (fun w' => Below wr.drew.heap.size wr.drew w') [] 21 (by kernel_rfl) (by kernel_rfl) ?_
          obtain ⟨W, HW⟩ : ∃ W, Hid (wr.drew = W) := ⟨_, rfl⟩
          rw [HW.out] at r1 r2 r3 r4 B0 ⊢
          have HS0 : Below W.heap.size W W := Below.refl _ _
          have HBW : Hid (Below w3.heap.size w3 W) := B0
          clear B0 HB
          refine lx_rd 0 ?vBq00 (by kernel_rfl) (fun _ _ d _ _ h => by cases d <;> exact h) (by kernel_rfl) HS0 rfl rfl rfl (fun w' hS => ?hBq00) ?_
          case hBq00 => first | (go_simp; rfl) | (go_simp; done) | (go_simp; exact idx_ok (by omega) (by omega)) | (go_simp; exact wi64' (by omega) (by omega) (by omega)) | (go_simp; intro hh; exfalso; omega)
          simp only [List.setIfInBounds_toArray, List.set_cons_zero, List.set_cons_succ]
          refine lx_rd 2 ?vBq02 (by kernel_rfl) (fun _ _ d _ _ h => by cases d <;> exact h) (by kernel_rfl) HS0 rfl rfl rfl (fun w' hS => ?hBq02) ?_
          case hBq02 => first | (go_simp; rfl) | (go_simp; done) | (go_simp; exact idx_ok (by omega) (by omega)) | (go_simp; exact wi64' (by omega) (by omega) (by omega)) | (go_simp; intro hh; exfalso; omega)
          simp only [List.setIfInBounds_toArray, List.set_cons_zero, List.set_cons_succ]
          refine lx_rd 3 ?vBq03 (by kernel_rfl) (fun _ _ d _ _ h => by cases d <;> exact h) (by kernel_rfl) HS0 rfl rfl rfl (fun w' hS => ?hBq03) ?_
          case hBq03 => first | (go_simp; rfl) | (go_simp; done) | (go_simp; exact idx_ok (by omega) (by omega)) | (go_simp; exact wi64' (by omega) (by omega) (by omega)) | (go_simp; intro hh; exfalso; omega)
          simp only [List.setIfInBounds_toArray, List.set_cons_zero, List.set_cons_succ]
          refine lx_rd 4 (.slice (some ⟨g1, 0, none⟩) j c1) (by kernel_rfl) (fun _ _ d _ _ h => by cases d <;> exact h) (by kernel_rfl) HS0 rfl rfl rfl (fun w' hS => ?hBq04) ?_
          case hBq04 => first | (go_simp; rfl) | (go_simp; done) | (go_simp; exact idx_ok (by omega) (by omega)) | (go_simp; exact wi64' (by omega) (by omega) (by omega)) | (go_simp; intro hh; exfalso; omega)
          simp only [List.setIfInBounds_toArray, List.set_cons_zero, List.set_cons_succ]
          refine lx_rd 6 ?vBq06 (by kernel_rfl) (fun _ _ d _ _ h => by cases d <;> exact h) (by kernel_rfl) HS0 rfl rfl rfl (fun w' hS => ?hBq06) ?_
          case hBq06 => first | (go_simp; rfl) | (go_simp; done) | (go_simp; exact idx_ok (by omega) (by omega)) | (go_simp; exact wi64' (by omega) (by omega) (by omega)) | (go_simp; intro hh; exfalso; omega)
          simp only [List.setIfInBounds_toArray, List.set_cons_zero, List.set_cons_succ]
          refine lx_rd 7 ?vBq07 (by kernel_rfl) (fun _ _ d _ _ h => by cases d <;> exact h) (by kernel_rfl) HS0 rfl rfl rfl (fun w' hS => ?hBq07) ?_
          case hBq07 => first | (go_simp; rfl) | (go_simp; done) | (go_simp; exact idx_ok (by omega) (by omega)) | (go_simp; exact wi64' (by omega) (by omega) (by omega)) | (go_simp; intro hh; exfalso; omega)
          simp only [List.setIfInBounds_toArray, List.set_cons_zero, List.set_cons_succ]
          refine lx_rd 8 (.slice (some ⟨g2, 0, none⟩) j c2) (by kernel_rfl) (fun _ _ d _ _ h => by cases d <;> exact h) (by kernel_rfl) HS0 rfl rfl rfl (fun w' hS => ?hBq08) ?_
          case hBq08 => first | (go_simp; rfl) | (go_simp; done) | (go_simp; exact idx_ok (by omega) (by omega)) | (go_simp; exact wi64' (by omega) (by omega) (by omega)) | (go_simp; intro hh; exfalso; omega)
          simp only [List.setIfInBounds_toArray, List.set_cons_zero, List.set_cons_succ]
          refine lx_rd 11 ?vBq011 (by kernel_rfl) (fun _ _ d _ _ h => by cases d <;> exact h) (by kernel_rfl) HS0 rfl rfl rfl (fun w' hS => ?hBq011) ?_
          case hBq011 => first | (go_simp; rfl) | (go_simp; done) | (go_simp; exact idx_ok (by omega) (by omega)) | (go_simp; exact wi64' (by omega) (by omega) (by omega)) | (go_simp; intro hh; exfalso; omega)
          simp only [List.setIfInBounds_toArray, List.set_cons_zero, List.set_cons_succ]
          refine lx_rd 12 ?vBq012 (by kernel_rfl) (fun _ _ d _ _ h => by cases d <;> exact h) (by kernel_rfl) HS0 rfl rfl rfl (fun w' hS => ?hBq012) ?_
          case hBq012 => first | (go_simp; rfl) | (go_simp; done) | (go_simp; exact idx_ok (by omega) (by omega)) | (go_simp; exact wi64' (by omega) (by omega) (by omega)) | (go_simp; intro hh; exfalso; omega)
          simp only [List.setIfInBounds_toArray, List.set_cons_zero, List.set_cons_succ]
          refine lx_rd 13 (.slice (some ⟨g3, 0, none⟩) j c3) (by kernel_rfl) (fun _ _ d _ _ h => by cases d <;> exact h) (by kernel_rfl) HS0 rfl rfl rfl (fun w' hS => ?hBq013) ?_
          case hBq013 => first | (go_simp; rfl) | (go_simp; done) | (go_simp; exact idx_ok (by omega) (by omega)) | (go_simp; exact wi64' (by omega) (by omega) (by omega)) | (go_simp; intro hh; exfalso; omega)
          simp only [List.setIfInBounds_toArray, List.set_cons_zero, List.set_cons_succ]
          refine lx_one 1 (by kernel_rfl) (stepT_call 7 #[.slice (some ⟨g4, 0, none⟩) j j] rfl rfl rfl ?rC1q0 ?_)
          case rC1q0 => first | (go_simp; rfl) | go_simp
          refine (sum_any _ _ _ _ _ r4).mono ?_
          rintro e v1 ⟨rfl, hv⟩
          rw [U4.out]
          replace hv := hv.symm
          subst hv
          refine ⟨_, rfl, fun _ => HS0, ?_⟩
          simp only [List.setIfInBounds_toArray, List.set_cons_zero, List.set_cons_succ]
          refine lx_one 5 (by kernel_rfl) (stepT_call 7 #[.slice (some ⟨g1, 0, none⟩) j c1] rfl rfl rfl ?rC5q0 ?_)
          case rC5q0 => first | (go_simp; rfl) | go_simp
          refine (sum_any _ _ _ _ _ r1).mono ?_
          rintro e v5 ⟨rfl, hv⟩
          rw [U1.out]
          replace hv := hv.symm
          subst hv
          refine ⟨_, rfl, fun _ => HS0, ?_⟩
          simp only [List.setIfInBounds_toArray, List.set_cons_zero, List.set_cons_succ]
          refine lx_one 9 (by kernel_rfl) (stepT_call 7 #[.slice (some ⟨g2, 0, none⟩) j c2] rfl rfl rfl ?rC9q0 ?_)
          case rC9q0 => first | (go_simp; rfl) | go_simp
          refine (sum_any _ _ _ _ _ r2).mono ?_
          rintro e v9 ⟨rfl, hv⟩
          rw [U2.out]
          replace hv := hv.symm
          subst hv
          refine ⟨_, rfl, fun _ => HS0, ?_⟩
          simp only [List.setIfInBounds_toArray, List.set_cons_zero, List.set_cons_succ]
          refine lx_rd 10 (.int .u32 u5) (by kernel_rfl) (fun _ _ d _ _ h => by cases d <;> exact h) (by kernel_rfl) HS0 rfl rfl rfl (fun w' hS => ?hCq010) ?_
          case hCq010 => first | (go_simp; rfl) | (go_simp; done) | (go_simp; exact idx_ok (by omega) (by omega)) | (go_simp; exact wi64' (by omega) (by omega) (by omega)) | (go_simp; intro hh; exfalso; omega)
          simp only [List.setIfInBounds_toArray, List.set_cons_zero, List.set_cons_succ]
          refine lx_one 14 (by kernel_rfl) (stepT_call 7 #[.slice (some ⟨g3, 0, none⟩) j c3] rfl rfl rfl ?rC14q0 ?_)
          case rC14q0 => first | (go_simp; rfl) | go_simp
          refine (sum_any _ _ _ _ _ r3).mono ?_
          rintro e v14 ⟨rfl, hv⟩
          rw [U3.out]
          replace hv := hv.symm
          subst hv
          refine ⟨_, rfl, fun _ => HS0, ?_⟩
          simp only [List.setIfInBounds_toArray, List.set_cons_zero, List.set_cons_succ]
          refine lx_rd 15 (.int .u32 u4) (by kernel_rfl) (fun _ _ d _ _ h => by cases d <;> exact h) (by kernel_rfl) HS0 rfl rfl rfl (fun w' hS => ?hDq015) ?_
          case hDq015 => first | (go_simp; rfl) | (go_simp; done) | (go_simp; exact idx_ok (by omega) (by omega)) | (go_simp; exact wi64' (by omega) (by omega) (by omega)) | (go_simp; intro hh; exfalso; omega)
          simp only [List.setIfInBounds_toArray, List.set_cons_zero, List.set_cons_succ]
          refine lx_rd 16 (.bool true) (by kernel_rfl) (fun _ _ d _ _ h => by cases d <;> exact h) (by kernel_rfl) HS0 rfl rfl rfl (fun w' hS => ?hDq016) ?_
          case hDq016 => first | (go_simp; rfl) | (go_simp; done) | (go_simp; exact idx_ok (by omega) (by omega)) | (go_simp; exact wi64' (by omega) (by omega) (by omega)) | (go_simp; intro hh; exfalso; omega)
          simp only [List.setIfInBounds_toArray, List.set_cons_zero, List.set_cons_succ]
          refine lx_rd 17 (.bool true) (by kernel_rfl) (fun _ _ d _ _ h => by cases d <;> exact h) (by kernel_rfl) HS0 rfl rfl rfl (fun w' hS => ?hDq017) ?_
          case hDq017 => first | (go_simp; rfl) | (go_simp; done) | (go_simp; exact idx_ok (by omega) (by omega)) | (go_simp; exact wi64' (by omega) (by omega) (by omega)) | (go_simp; intro hh; exfalso; omega)
          simp only [List.setIfInBounds_toArray, List.set_cons_zero, List.set_cons_succ]
          refine lx_one 18 (by kernel_rfl) (stepT_call 12 #[] rfl rfl rfl ?rC18q0 ?_)
          case rC18q0 => first | (go_simp; rfl) | go_simp
          refine (wakes_any _).mono ?_
          rintro e w5 ⟨rfl, hb5⟩
          refine ⟨_, rfl, fun _ => hb5, ?_⟩
          simp only [List.setIfInBounds_toArray, List.set_cons_zero, List.set_cons_succ]
          refine lx_rd 19 (.bool true) (by kernel_rfl) (fun _ _ d _ _ h => by cases d <;> exact h) (by kernel_rfl) hb5 rfl rfl rfl (fun w' hS => ?hEq019) ?_
          case hEq019 => first | (go_simp; rfl) | (go_simp; done) | (go_simp; exact idx_ok (by omega) (by omega)) | (go_simp; exact wi64' (by omega) (by omega) (by omega)) | (go_simp; intro hh; exfalso; omega)
          simp only [List.setIfInBounds_toArray, List.set_cons_zero, List.set_cons_succ]
          refine lx_rd 20 (.bool true) (by kernel_rfl) (fun _ _ d _ _ h => by cases d <;> exact h) (by kernel_rfl) hb5 rfl rfl rfl (fun w' hS => ?hEq020) ?_
          case hEq020 => first | (go_simp; rfl) | (go_simp; done) | (go_simp; exact idx_ok (by omega) (by omega)) | (go_simp; exact wi64' (by omega) (by omega) (by omega)) | (go_simp; intro hh; exfalso; omega)
          simp only [List.setIfInBounds_toArray, List.set_cons_zero, List.set_cons_succ]
          refine lx_nil (by kernel_rfl) ?_
          go_wp2_with fail
          go_ret
          exact ⟨rfl, HB3.out.trans ((HBW.out.trans (hb5.mono HBW.out.size)).mono HB3.out.size)⟩
    · have L1 : n2 ≤ n1 := by omega
      have L2 : n2 ≤ n2 := by omega
      have L3 : n2 ≤ n3 := by omega
      obtain ⟨w4, hmk, hr4, hf4, hb4⟩ := run_mkW w3 n2 (by omega)
      obtain ⟨g4, Hg4⟩ : ∃ g, Hid (w3.heap.size = g) := ⟨_, rfl⟩
      rw [Hg4.out] at hmk hr4 hf4
      go_wp2_with fail
      have hbw : Below w3.heap.size w3 w4 := hb4
      clear hmk hb4
      go_loopw [12] (fun i wr => ∃ j : Nat, j ≤ n2 ∧ i = .int .i64 j ∧ Hid (Rd wr (some ⟨g4, 0, none⟩) n2 n2 (wv X Y Z n2 j)) ∧ Hid (∀ q, wr.frozen? ⟨g4, q, none⟩ = false) ∧ Hid (Below w3.heap.size w3 wr)) (fun i _ => n2 - (intOf i).toNat)
      case atStart => exact ⟨0, by omega, rfl, by rw [wv_zero]; exact hr4, hf4, hbw⟩
      case round =>
        obtain ⟨j, hj, rfl, HW4, HF, HB⟩ := hrel
        clear hr4 hf4 hbw
        by_cases hlt : j < n2
        · have hcl : (j : Int) < (n2 : Int) := by omega
          have hc1 : (j : Int) < (n1 : Int) := by omega
          have hc2 : (j : Int) < (n2 : Int) := by omega
          have hc3 : (j : Int) < (n3 : Int) := by omega
          have HB' : Hid (Below w3.heap.size w3 wr.drew) := HB.out.drew
          have HF' : Hid (∀ q, wr.drew.frozen? ⟨g4, q, none⟩ = false) := HF.out
          have HY' : Rd wr.drew (some ⟨g4, 0, none⟩) n2 n2 (wv X Y Z n2 j) := rd_drew HW4.out
          have d1 := cells_of (H1.out.carry (Nat.le_refl _) HB'.out) (j := j) (by omega)
          have d2 := cells_of (H2.out.carry (Nat.le_refl _) HB'.out) (j := j) (by omega)
          have d3 := cells_of (H3.out.carry (Nat.le_refl _) HB'.out) (j := j) (by omega)
          have d4 := cells_of HY' hlt
          have b8 := bits8 .xor (bits .xor .u8 (X.getD j 0) (Y.getD j 0)) (Z.getD j 0)
          have HN' : Hid (Rd (wr.drew.setCell ⟨g4, j, none⟩ (.int .u8 (bits .xor .u8 (bits .xor .u8 (X.getD j 0) (Y.getD j 0)) (Z.getD j 0)))) (some ⟨g4, 0, none⟩) n2 n2 (wv X Y Z n2 (j + 1))) := by
            show Rd _ _ _ _ _
            rw [wv_succ X Y Z n2 j hlt (by rw [lX.out]; exact L1) (by rw [lY.out]; exact L2) (by rw [lZ.out]; exact L3)]
            exact HY'.setAt hlt b8.1 b8.2
          have hf := HF'.out j
          obtain ⟨x, E1⟩ : ∃ x, Hid (X.getD j 0 = x) := ⟨_, rfl⟩
          obtain ⟨y, E2⟩ : ∃ x, Hid (Y.getD j 0 = x) := ⟨_, rfl⟩
          obtain ⟨z, E3⟩ : ∃ x, Hid (Z.getD j 0 = x) := ⟨_, rfl⟩
          obtain ⟨o, E4⟩ : ∃ x, Hid ((wv X Y Z n2 j).getD j 0 = x) := ⟨_, rfl⟩
          rw [E1.out] at d1 HN'
          rw [E2.out] at d2 HN'
          rw [E3.out] at d3 HN'
          rw [E4.out] at d4
          clear b8 HY' HW4 HF HB E1 E2 E3 E4 hlt
          go_wp2_with fail
          refine wp_region_lx (fun w' => w' = wr.drew) [17] 18 (by kernel_rfl) (by kernel_rfl) ?_
          obtain ⟨W, HW⟩ : ∃ W, Hid (wr.drew = W) := ⟨_, rfl⟩
          rw [HW.out] at HF' HB' HN' d1 d2 d3 d4 hf ⊢
          have HS0 : W = W := rfl
          refine lx_rd 0 ?vAq10 (by kernel_rfl) (fun _ _ d _ _ h => by cases d <;> exact h) (by kernel_rfl) HS0 rfl rfl rfl (fun w' hS => ?hAq10) ?_
          case hAq10 => first | (go_simp; rfl) | (go_simp; done) | (go_simp; exact idx_ok (by omega) (by omega)) | (go_simp; exact wi64' (by omega) (by omega) (by omega)) | (go_simp; intro hh; exfalso; omega)
          simp only [List.setIfInBounds_toArray, List.set_cons_zero, List.set_cons_succ]
          refine lx_rd 1 ?vAq11 (by kernel_rfl) (fun _ _ d _ _ h => by cases d <;> exact h) (by kernel_rfl) HS0 rfl rfl rfl (fun w' hS => ?hAq11) ?_
          case hAq11 => first | (go_simp; rfl) | (go_simp; done) | (go_simp; exact idx_ok (by omega) (by omega)) | (go_simp; exact wi64' (by omega) (by omega) (by omega)) | (go_simp; intro hh; exfalso; omega)
          simp only [List.setIfInBounds_toArray, List.set_cons_zero, List.set_cons_succ]
          refine lx_rd 2 ?vAq12 (by kernel_rfl) (fun _ _ d _ _ h => by cases d <;> exact h) (by kernel_rfl) HS0 rfl rfl rfl (fun w' hS => ?hAq12) ?_
          case hAq12 => first | (go_simp; rfl) | (go_simp; done) | (go_simp; exact idx_ok (by omega) (by omega)) | (go_simp; exact wi64' (by omega) (by omega) (by omega)) | (go_simp; intro hh; exfalso; omega)
          simp only [List.setIfInBounds_toArray, List.set_cons_zero, List.set_cons_succ]
          refine lx_rd 3 ?vAq13 (by kernel_rfl) (fun _ _ d _ _ h => by cases d <;> exact h) (by kernel_rfl) HS0 rfl rfl rfl (fun w' hS => ?hAq13) ?_
          case hAq13 => first | (go_simp; rfl) | (go_simp; done) | (go_simp; exact idx_ok (by omega) (by omega)) | (go_simp; exact wi64' (by omega) (by omega) (by omega)) | (go_simp; intro hh; exfalso; omega)
          simp only [List.setIfInBounds_toArray, List.set_cons_zero, List.set_cons_succ]
          refine lx_rd 4 (.pointer (some ⟨g1, j, none⟩)) (by kernel_rfl) (fun _ _ d _ _ h => by cases d <;> exact h) (by kernel_rfl) HS0 rfl rfl rfl (fun w' hS => ?hAq14) ?_
          case hAq14 => first | (go_simp; rfl) | (go_simp; done) | (go_simp; exact idx_ok (by omega) (by omega)) | (go_simp; exact wi64' (by omega) (by omega) (by omega)) | (go_simp; intro hh; exfalso; omega)
          simp only [List.setIfInBounds_toArray, List.set_cons_zero, List.set_cons_succ]
          refine lx_rd 5 (.int .u8 x) (by kernel_rfl) (fun _ _ d _ _ h => by cases d <;> exact h) (by kernel_rfl) HS0 rfl rfl rfl (fun w' hS => ?hAq15) ?_
          case hAq15 => subst hS; first | (go_simp; rfl) | (go_simp; done) | (go_simp; exact idx_ok (by omega) (by omega)) | (go_simp; exact wi64' (by omega) (by omega) (by omega)) | (go_simp; intro hh; exfalso; omega)
          simp only [List.setIfInBounds_toArray, List.set_cons_zero, List.set_cons_succ]
          refine lx_rd 6 ?vAq16 (by kernel_rfl) (fun _ _ d _ _ h => by cases d <;> exact h) (by kernel_rfl) HS0 rfl rfl rfl (fun w' hS => ?hAq16) ?_
          case hAq16 => first | (go_simp; rfl) | (go_simp; done) | (go_simp; exact idx_ok (by omega) (by omega)) | (go_simp; exact wi64' (by omega) (by omega) (by omega)) | (go_simp; intro hh; exfalso; omega)
          simp only [List.setIfInBounds_toArray, List.set_cons_zero, List.set_cons_succ]
          refine lx_rd 7 ?vAq17 (by kernel_rfl) (fun _ _ d _ _ h => by cases d <;> exact h) (by kernel_rfl) HS0 rfl rfl rfl (fun w' hS => ?hAq17) ?_
          case hAq17 => first | (go_simp; rfl) | (go_simp; done) | (go_simp; exact idx_ok (by omega) (by omega)) | (go_simp; exact wi64' (by omega) (by omega) (by omega)) | (go_simp; intro hh; exfalso; omega)
          simp only [List.setIfInBounds_toArray, List.set_cons_zero, List.set_cons_succ]
          refine lx_rd 8 (.pointer (some ⟨g2, j, none⟩)) (by kernel_rfl) (fun _ _ d _ _ h => by cases d <;> exact h) (by kernel_rfl) HS0 rfl rfl rfl (fun w' hS => ?hAq18) ?_
          case hAq18 => first | (go_simp; rfl) | (go_simp; done) | (go_simp; exact idx_ok (by omega) (by omega)) | (go_simp; exact wi64' (by omega) (by omega) (by omega)) | (go_simp; intro hh; exfalso; omega)
          simp only [List.setIfInBounds_toArray, List.set_cons_zero, List.set_cons_succ]
          refine lx_rd 9 (.int .u8 y) (by kernel_rfl) (fun _ _ d _ _ h => by cases d <;> exact h) (by kernel_rfl) HS0 rfl rfl rfl (fun w' hS => ?hAq19) ?_
          case hAq19 => subst hS; first | (go_simp; rfl) | (go_simp; done) | (go_simp; exact idx_ok (by omega) (by omega)) | (go_simp; exact wi64' (by omega) (by omega) (by omega)) | (go_simp; intro hh; exfalso; omega)
          simp only [List.setIfInBounds_toArray, List.set_cons_zero, List.set_cons_succ]
          refine lx_rd 10 (.int .u8 (bits .xor .u8 x y)) (by kernel_rfl) (fun _ _ d _ _ h => by cases d <;> exact h) (by kernel_rfl) HS0 rfl rfl rfl (fun w' hS => ?hAq110) ?_
          case hAq110 => first | (go_simp; rfl) | (go_simp; done) | (go_simp; exact idx_ok (by omega) (by omega)) | (go_simp; exact wi64' (by omega) (by omega) (by omega)) | (go_simp; intro hh; exfalso; omega)
          simp only [List.setIfInBounds_toArray, List.set_cons_zero, List.set_cons_succ]
          refine lx_rd 11 ?vAq111 (by kernel_rfl) (fun _ _ d _ _ h => by cases d <;> exact h) (by kernel_rfl) HS0 rfl rfl rfl (fun w' hS => ?hAq111) ?_
          case hAq111 => first | (go_simp; rfl) | (go_simp; done) | (go_simp; exact idx_ok (by omega) (by omega)) | (go_simp; exact wi64' (by omega) (by omega) (by omega)) | (go_simp; intro hh; exfalso; omega)
          simp only [List.setIfInBounds_toArray, List.set_cons_zero, List.set_cons_succ]
          refine lx_rd 12 ?vAq112 (by kernel_rfl) (fun _ _ d _ _ h => by cases d <;> exact h) (by kernel_rfl) HS0 rfl rfl rfl (fun w' hS => ?hAq112) ?_
          case hAq112 => first | (go_simp; rfl) | (go_simp; done) | (go_simp; exact idx_ok (by omega) (by omega)) | (go_simp; exact wi64' (by omega) (by omega) (by omega)) | (go_simp; intro hh; exfalso; omega)
          simp only [List.setIfInBounds_toArray, List.set_cons_zero, List.set_cons_succ]
          refine lx_rd 13 (.pointer (some ⟨g3, j, none⟩)) (by kernel_rfl) (fun _ _ d _ _ h => by cases d <;> exact h) (by kernel_rfl) HS0 rfl rfl rfl (fun w' hS => ?hAq113) ?_
          case hAq113 => first | (go_simp; rfl) | (go_simp; done) | (go_simp; exact idx_ok (by omega) (by omega)) | (go_simp; exact wi64' (by omega) (by omega) (by omega)) | (go_simp; intro hh; exfalso; omega)
          simp only [List.setIfInBounds_toArray, List.set_cons_zero, List.set_cons_succ]
          refine lx_rd 14 (.int .u8 z) (by kernel_rfl) (fun _ _ d _ _ h => by cases d <;> exact h) (by kernel_rfl) HS0 rfl rfl rfl (fun w' hS => ?hAq114) ?_
          case hAq114 => subst hS; first | (go_simp; rfl) | (go_simp; done) | (go_simp; exact idx_ok (by omega) (by omega)) | (go_simp; exact wi64' (by omega) (by omega) (by omega)) | (go_simp; intro hh; exfalso; omega)
          simp only [List.setIfInBounds_toArray, List.set_cons_zero, List.set_cons_succ]
          refine lx_rd 15 (.int .u8 (bits .xor .u8 (bits .xor .u8 x y) z)) (by kernel_rfl) (fun _ _ d _ _ h => by cases d <;> exact h) (by kernel_rfl) HS0 rfl rfl rfl (fun w' hS => ?hAq115) ?_
          case hAq115 => first | (go_simp; rfl) | (go_simp; done) | (go_simp; exact idx_ok (by omega) (by omega)) | (go_simp; exact wi64' (by omega) (by omega) (by omega)) | (go_simp; intro hh; exfalso; omega)
          simp only [List.setIfInBounds_toArray, List.set_cons_zero, List.set_cons_succ]
          refine lx_rd 16 (.pointer (some ⟨g4, j, none⟩)) (by kernel_rfl) (fun _ _ d _ _ h => by cases d <;> exact h) (by kernel_rfl) HS0 rfl rfl rfl (fun w' hS => ?hAq116) ?_
          case hAq116 => first | (go_simp; rfl) | (go_simp; done) | (go_simp; exact idx_ok (by omega) (by omega)) | (go_simp; exact wi64' (by omega) (by omega) (by omega)) | (go_simp; intro hh; exfalso; omega)
          simp only [List.setIfInBounds_toArray, List.set_cons_zero, List.set_cons_succ]
          refine lx_one 17 (by kernel_rfl) (stepT_store (w' := W.setCell ⟨g4, j, none⟩ (.int .u8 (bits .xor .u8 (bits .xor .u8 x y) z))) rfl rfl rfl ?r17q1 (fun h => by cases h) ?_)
          case r17q1 => first | (go_simp; rfl) | go_simp
          refine lx_nil (by kernel_rfl) ?_
          go_wp2_with fail
          exact ⟨⟨j + 1, by omega, by go_num, HN', fun q => frozen_setCell W _ _ g4 q HF'.out, HB'.out.setCell (show w3.heap.size ≤ g4 from Nat.le_of_eq Hg4.out) _⟩, by simp [intOf]; omega⟩
        · obtain rfl : j = n2 := by omega
          have hcl : ¬ (j : Int) < (j : Int) := by omega
          have HX3 : Hid (more 0#32 (wv X Y Z j j) = more 0#32 (X.take j) ^^^ more 0#32 (Y.take j) ^^^ more 0#32 (Z.take j)) := by
            show _ = _
            rw [wv_last]
            have k1 := lX.out
            have k2 := lY.out
            have k3 := lZ.out
            exact more_x3 _ _ _ (by simp; omega) (by simp; omega) (bX'.out.take _) (bY'.out.take _) (bZ'.out.take _)
          have B0 := HB.out.drew
          have r1 := (H1.out.carry (Nat.le_refl _) B0).takeK L1
          have r2 := (H2.out.carry (Nat.le_refl _) B0).takeK L2
          have r3 := (H3.out.carry (Nat.le_refl _) B0).takeK L3
          have r4 := rd_drew HW4.out
          have x12 := xor_uw (more 0#32 (X.take j)) (more 0#32 (Y.take j))
          have x123 := xor_uw (more 0#32 (X.take j) ^^^ more 0#32 (Y.take j)) (more 0#32 (Z.take j))
          rw [← HX3.out] at x123
          generalize X.take j = A1 at r1 x12 x123
          generalize Y.take j = A2 at r2 x12 x123
          generalize Z.take j = A3 at r3 x123
          generalize wv X Y Z j j = A4 at r4 x123
          clear HX3 H1 H2 H3 HW4 HF lX lY lZ bX' bY' bZ' Hg4
          obtain ⟨u1, U1⟩ : ∃ x, Hid (uw (more 0#32 A1) = x) := ⟨_, rfl⟩
          obtain ⟨u2, U2⟩ : ∃ x, Hid (uw (more 0#32 A2) = x) := ⟨_, rfl⟩
          obtain ⟨u3, U3⟩ : ∃ x, Hid (uw (more 0#32 A3) = x) := ⟨_, rfl⟩
          obtain ⟨u4, U4⟩ : ∃ x, Hid (uw (more 0#32 A4) = x) := ⟨_, rfl⟩
          obtain ⟨u5, U5⟩ : ∃ x, Hid (uw (more 0#32 A1 ^^^ more 0#32 A2) = x) := ⟨_, rfl⟩
          rw [U1.out, U2.out, U5.out] at x12
          rw [U5.out, U3.out, U4.out] at x123
          go_wp2_with fail
          refine wp_region_lx (fun w' => Below wr.drew.heap.size wr.drew w') [] 21 (by kernel_rfl) (by kernel_rfl) ?_
          obtain ⟨W, HW⟩ : ∃ W, Hid (wr.drew = W) := ⟨_, rfl⟩
          rw [HW.out] at r1 r2 r3 r4 B0 ⊢
          have HS0 : Below W.heap.size W W := Below.refl _ _
          have HBW : Hid (Below w3.heap.size w3 W) := B0
          clear B0 HB
          refine lx_rd 0 ?vBq10 (by kernel_rfl) (fun _ _ d _ _ h => by cases d <;> exact h) (by kernel_rfl) HS0 rfl rfl rfl (fun w' hS => ?hBq10) ?_
          case hBq10 => first | (go_simp; rfl) | (go_simp; done) | (go_simp; exact idx_ok (by omega) (by omega)) | (go_simp; exact wi64' (by omega) (by omega) (by omega)) | (go_simp; intro hh; exfalso; omega)
          simp only [List.setIfInBounds_toArray, List.set_cons_zero, List.set_cons_succ]
          refine lx_rd 2 ?vBq12 (by kernel_rfl) (fun _ _ d _ _ h => by cases d <;> exact h) (by kernel_rfl) HS0 rfl rfl rfl (fun w' hS => ?hBq12) ?_
          case hBq12 => first | (go_simp; rfl) | (go_simp; done) | (go_simp; exact idx_ok (by omega) (by omega)) | (go_simp; exact wi64' (by omega) (by omega) (by omega)) | (go_simp; intro hh; exfalso; omega)
          simp only [List.setIfInBounds_toArray, List.set_cons_zero, List.set_cons_succ]
          refine lx_rd 3 ?vBq13 (by kernel_rfl) (fun _ _ d _ _ h => by cases d <;> exact h) (by kernel_rfl) HS0 rfl rfl rfl (fun w' hS => ?hBq13) ?_
          case hBq13 => first | (go_simp; rfl) | (go_simp; done) | (go_simp; exact idx_ok (by omega) (by omega)) | (go_simp; exact wi64' (by omega) (by omega) (by omega)) | (go_simp; intro hh; exfalso; omega)
          simp only [List.setIfInBounds_toArray, List.set_cons_zero, List.set_cons_succ]
          refine lx_rd 4 (.slice (some ⟨g1, 0, none⟩) j c1) (by kernel_rfl) (fun _ _ d _ _ h => by cases d <;> exact h) (by kernel_rfl) HS0 rfl rfl rfl (fun w' hS => ?hBq14) ?_
          case hBq14 => first | (go_simp; rfl) | (go_simp; done) | (go_simp; exact idx_ok (by omega) (by omega)) | (go_simp; exact wi64' (by omega) (by omega) (by omega)) | (go_simp; intro hh; exfalso; omega)
          simp only [List.setIfInBounds_toArray, List.set_cons_zero, List.set_cons_succ]
          refine lx_rd 6 ?vBq16 (by kernel_rfl) (fun _ _ d _ _ h => by cases d <;> exact h) (by kernel_rfl) HS0 rfl rfl rfl (fun w' hS => ?hBq16) ?_
          case hBq16 => first | (go_simp; rfl) | (go_simp; done) | (go_simp; exact idx_ok (by omega) (by omega)) | (go_simp; exact wi64' (by omega) (by omega) (by omega)) | (go_simp; intro hh; exfalso; omega)
          simp only [List.setIfInBounds_toArray, List.set_cons_zero, List.set_cons_succ]
          refine lx_rd 7 ?vBq17 (by kernel_rfl) (fun _ _ d _ _ h => by cases d <;> exact h) (by kernel_rfl) HS0 rfl rfl rfl (fun w' hS => ?hBq17) ?_
          case hBq17 => first | (go_simp; rfl) | (go_simp; done) | (go_simp; exact idx_ok (by omega) (by omega)) | (go_simp; exact wi64' (by omega) (by omega) (by omega)) | (go_simp; intro hh; exfalso; omega)
          simp only [List.setIfInBounds_toArray, List.set_cons_zero, List.set_cons_succ]
          refine lx_rd 8 (.slice (some ⟨g2, 0, none⟩) j c2) (by kernel_rfl) (fun _ _ d _ _ h => by cases d <;> exact h) (by kernel_rfl) HS0 rfl rfl rfl (fun w' hS => ?hBq18) ?_
          case hBq18 => first | (go_simp; rfl) | (go_simp; done) | (go_simp; exact idx_ok (by omega) (by omega)) | (go_simp; exact wi64' (by omega) (by omega) (by omega)) | (go_simp; intro hh; exfalso; omega)
          simp only [List.setIfInBounds_toArray, List.set_cons_zero, List.set_cons_succ]
          refine lx_rd 11 ?vBq111 (by kernel_rfl) (fun _ _ d _ _ h => by cases d <;> exact h) (by kernel_rfl) HS0 rfl rfl rfl (fun w' hS => ?hBq111) ?_
          case hBq111 => first | (go_simp; rfl) | (go_simp; done) | (go_simp; exact idx_ok (by omega) (by omega)) | (go_simp; exact wi64' (by omega) (by omega) (by omega)) | (go_simp; intro hh; exfalso; omega)
          simp only [List.setIfInBounds_toArray, List.set_cons_zero, List.set_cons_succ]
          refine lx_rd 12 ?vBq112 (by kernel_rfl) (fun _ _ d _ _ h => by cases d <;> exact h) (by kernel_rfl) HS0 rfl rfl rfl (fun w' hS => ?hBq112) ?_
          case hBq112 => first | (go_simp; rfl) | (go_simp; done) | (go_simp; exact idx_ok (by omega) (by omega)) | (go_simp; exact wi64' (by omega) (by omega) (by omega)) | (go_simp; intro hh; exfalso; omega)
          simp only [List.setIfInBounds_toArray, List.set_cons_zero, List.set_cons_succ]
          refine lx_rd 13 (.slice (some ⟨g3, 0, none⟩) j c3) (by kernel_rfl) (fun _ _ d _ _ h => by cases d <;> exact h) (by kernel_rfl) HS0 rfl rfl rfl (fun w' hS => ?hBq113) ?_
          case hBq113 => first | (go_simp; rfl) | (go_simp; done) | (go_simp; exact idx_ok (by omega) (by omega)) | (go_simp; exact wi64' (by omega) (by omega) (by omega)) | (go_simp; intro hh; exfalso; omega)
          simp only [List.setIfInBounds_toArray, List.set_cons_zero, List.set_cons_succ]
          refine lx_one 1 (by kernel_rfl) (stepT_call 7 #[.slice (some ⟨g4, 0, none⟩) j j] rfl rfl rfl ?rC1q1 ?_)
          case rC1q1 => first | (go_simp; rfl) | go_simp
          refine (sum_any _ _ _ _ _ r4).mono ?_
          rintro e v1 ⟨rfl, hv⟩
          rw [U4.out]
          replace hv := hv.symm
          subst hv
          refine ⟨_, rfl, fun _ => HS0, ?_⟩
          simp only [List.setIfInBounds_toArray, List.set_cons_zero, List.set_cons_succ]
          refine lx_one 5 (by kernel_rfl) (stepT_call 7 #[.slice (some ⟨g1, 0, none⟩) j c1] rfl rfl rfl ?rC5q1 ?_)
          case rC5q1 => first | (go_simp; rfl) | go_simp
          refine (sum_any _ _ _ _ _ r1).mono ?_
          rintro e v5 ⟨rfl, hv⟩
          rw [U1.out]
          replace hv := hv.symm
          subst hv
          refine ⟨_, rfl, fun _ => HS0, ?_⟩
          simp only [List.setIfInBounds_toArray, List.set_cons_zero, List.set_cons_succ]
          refine lx_one 9 (by kernel_rfl) (stepT_call 7 #[.slice (some ⟨g2, 0, none⟩) j c2] rfl rfl rfl ?rC9q1 ?_)
          case rC9q1 => first | (go_simp; rfl) | go_simp
          refine (sum_any _ _ _ _ _ r2).mono ?_
          rintro e v9 ⟨rfl, hv⟩
          rw [U2.out]
          replace hv := hv.symm
          subst hv
          refine ⟨_, rfl, fun _ => HS0, ?_⟩
          simp only [List.setIfInBounds_toArray, List.set_cons_zero, List.set_cons_succ]
          refine lx_rd 10 (.int .u32 u5) (by kernel_rfl) (fun _ _ d _ _ h => by cases d <;> exact h) (by kernel_rfl) HS0 rfl rfl rfl (fun w' hS => ?hCq110) ?_
          case hCq110 => first | (go_simp; rfl) | (go_simp; done) | (go_simp; exact idx_ok (by omega) (by omega)) | (go_simp; exact wi64' (by omega) (by omega) (by omega)) | (go_simp; intro hh; exfalso; omega)
          simp only [List.setIfInBounds_toArray, List.set_cons_zero, List.set_cons_succ]
          refine lx_one 14 (by kernel_rfl) (stepT_call 7 #[.slice (some ⟨g3, 0, none⟩) j c3] rfl rfl rfl ?rC14q1 ?_)
          case rC14q1 => first | (go_simp; rfl) | go_simp
          refine (sum_any _ _ _ _ _ r3).mono ?_
          rintro e v14 ⟨rfl, hv⟩
          rw [U3.out]
          replace hv := hv.symm
          subst hv
          refine ⟨_, rfl, fun _ => HS0, ?_⟩
          simp only [List.setIfInBounds_toArray, List.set_cons_zero, List.set_cons_succ]
          refine lx_rd 15 (.int .u32 u4) (by kernel_rfl) (fun _ _ d _ _ h => by cases d <;> exact h) (by kernel_rfl) HS0 rfl rfl rfl (fun w' hS => ?hDq115) ?_
          case hDq115 => first | (go_simp; rfl) | (go_simp; done) | (go_simp; exact idx_ok (by omega) (by omega)) | (go_simp; exact wi64' (by omega) (by omega) (by omega)) | (go_simp; intro hh; exfalso; omega)
          simp only [List.setIfInBounds_toArray, List.set_cons_zero, List.set_cons_succ]
          refine lx_rd 16 (.bool true) (by kernel_rfl) (fun _ _ d _ _ h => by cases d <;> exact h) (by kernel_rfl) HS0 rfl rfl rfl (fun w' hS => ?hDq116) ?_
          case hDq116 => first | (go_simp; rfl) | (go_simp; done) | (go_simp; exact idx_ok (by omega) (by omega)) | (go_simp; exact wi64' (by omega) (by omega) (by omega)) | (go_simp; intro hh; exfalso; omega)
          simp only [List.setIfInBounds_toArray, List.set_cons_zero, List.set_cons_succ]
          refine lx_rd 17 (.bool true) (by kernel_rfl) (fun _ _ d _ _ h => by cases d <;> exact h) (by kernel_rfl) HS0 rfl rfl rfl (fun w' hS => ?hDq117) ?_
          case hDq117 => first | (go_simp; rfl) | (go_simp; done) | (go_simp; exact idx_ok (by omega) (by omega)) | (go_simp; exact wi64' (by omega) (by omega) (by omega)) | (go_simp; intro hh; exfalso; omega)
          simp only [List.setIfInBounds_toArray, List.set_cons_zero, List.set_cons_succ]
          refine lx_one 18 (by kernel_rfl) (stepT_call 12 #[] rfl rfl rfl ?rC18q1 ?_)
          case rC18q1 => first | (go_simp; rfl) | go_simp
          refine (wakes_any _).mono ?_
          rintro e w5 ⟨rfl, hb5⟩
          refine ⟨_, rfl, fun _ => hb5, ?_⟩
          simp only [List.setIfInBounds_toArray, List.set_cons_zero, List.set_cons_succ]
          refine lx_rd 19 (.bool true) (by kernel_rfl) (fun _ _ d _ _ h => by cases d <;> exact h) (by kernel_rfl) hb5 rfl rfl rfl (fun w' hS => ?hEq119) ?_
          case hEq119 => first | (go_simp; rfl) | (go_simp; done) | (go_simp; exact idx_ok (by omega) (by omega)) | (go_simp; exact wi64' (by omega) (by omega) (by omega)) | (go_simp; intro hh; exfalso; omega)
          simp only [List.setIfInBounds_toArray, List.set_cons_zero, List.set_cons_succ]
          refine lx_rd 20 (.bool true) (by kernel_rfl) (fun _ _ d _ _ h => by cases d <;> exact h) (by kernel_rfl) hb5 rfl rfl rfl (fun w' hS => ?hEq120) ?_
          case hEq120 => first | (go_simp; rfl) | (go_simp; done) | (go_simp; exact idx_ok (by omega) (by omega)) | (go_simp; exact wi64' (by omega) (by omega) (by omega)) | (go_simp; intro hh; exfalso; omega)
          simp only [List.setIfInBounds_toArray, List.set_cons_zero, List.set_cons_succ]
          refine lx_nil (by kernel_rfl) ?_
          go_wp2_with fail
          go_ret
          exact ⟨rfl, HB3.out.trans ((HBW.out.trans (hb5.mono HBW.out.size)).mono HB3.out.size)⟩
  · by_cases h3 : (n3 : Int) < (n1 : Int)
    · have L1 : n3 ≤ n1 := by omega
      have L2 : n3 ≤ n2 := by omega
      have L3 : n3 ≤ n3 := by omega
      obtain ⟨w4, hmk, hr4, hf4, hb4⟩ := run_mkW w3 n3 (by omega)
      obtain ⟨g4, Hg4⟩ : ∃ g, Hid (w3.heap.size = g) := ⟨_, rfl⟩
      rw [Hg4.out] at hmk hr4 hf4
      go_wp2_with fail
      have hbw : Below w3.heap.size w3 w4 := hb4
      clear hmk hb4
      go_loopw [12] (fun i wr => ∃ j : Nat, j ≤ n3 ∧ i = .int .i64 j ∧ Hid (Rd wr (some ⟨g4, 0, none⟩) n3 n3 (wv X Y Z n3 j)) ∧ Hid (∀ q, wr.frozen? ⟨g4, q, none⟩ = false) ∧ Hid (Below w3.heap.size w3 wr)) (fun i _ => n3 - (intOf i).toNat)
      case atStart => exact ⟨0, by omega, rfl, by rw [wv_zero]; exact hr4, hf4, hbw⟩
      case round =>
        obtain ⟨j, hj, rfl, HW4, HF, HB⟩ := hrel
        clear hr4 hf4 hbw
        by_cases hlt : j < n3
        · have hcl : (j : Int) < (n3 : Int) := by omega
          have hc1 : (j : Int) < (n1 : Int) := by omega
          have hc2 : (j : Int) < (n2 : Int) := by omega
          have hc3 : (j : Int) < (n3 : Int) := by omega
          have HB' : Hid (Below w3.heap.size w3 wr.drew) := HB.out.drew
          have HF' : Hid (∀ q, wr.drew.frozen? ⟨g4, q, none⟩ = false) := HF.out
          have HY' : Rd wr.drew (some ⟨g4, 0, none⟩) n3 n3 (wv X Y Z n3 j) := rd_drew HW4.out
          have d1 := cells_of (H1.out.carry (Nat.le_refl _) HB'.out) (j := j) (by omega)
          have d2 := cells_of (H2.out.carry (Nat.le_refl _) HB'.out) (j := j) (by omega)
          have d3 := cells_of (H3.out.carry (Nat.le_refl _) HB'.out) (j := j) (by omega)
          have d4 := cells_of HY' hlt
          have b8 := bits8 .xor (bits .xor .u8 (X.getD j 0) (Y.getD j 0)) (Z.getD j 0)
          have HN' : Hid (Rd (wr.drew.setCell ⟨g4, j, none⟩ (.int .u8 (bits .xor .u8 (bits .xor .u8 (X.getD j 0) (Y.getD j 0)) (Z.getD j 0)))) (some ⟨g4, 0, none⟩) n3 n3 (wv X Y Z n3 (j + 1))) := by
            show Rd _ _ _ _ _
            rw [wv_succ X Y Z n3 j hlt (by rw [lX.out]; exact L1) (by rw [lY.out]; exact L2) (by rw [lZ.out]; exact L3)]
            exact HY'.setAt hlt b8.1 b8.2
          have hf := HF'.out j
          obtain ⟨x, E1⟩ : ∃ x, Hid (X.getD j 0 = x) := ⟨_, rfl⟩
          obtain ⟨y, E2⟩ : ∃ x, Hid (Y.getD j 0 = x) := ⟨_, rfl⟩
          obtain ⟨z, E3⟩ : ∃ x, Hid (Z.getD j 0 = x) := ⟨_, rfl⟩
          obtain ⟨o, E4⟩ : ∃ x, Hid ((wv X Y Z n3 j).getD j 0 = x) := ⟨_, rfl⟩
          rw [E1.out] at d1 HN'
          rw [E2.out] at d2 HN'
          rw [E3.out] at d3 HN'
          rw [E4.out] at d4
          clear b8 HY' HW4 HF HB E1 E2 E3 E4 hlt
          go_wp2_with fail
          refine wp_region_lx (fun w' => w' = wr.drew) [17] 18 (by kernel_rfl) (by kernel_rfl) ?_
          obtain ⟨W, HW⟩ : ∃ W, Hid (wr.drew = W) := ⟨_, rfl⟩
          rw [HW.out] at HF' HB' HN' d1 d2 d3 d4 hf ⊢
          have HS0 : W = W := rfl
          refine lx_rd 0 ?vAq20 (by kernel_rfl) (fun _ _ d _ _ h => by cases d <;> exact h) (by kernel_rfl) HS0 rfl rfl rfl (fun w' hS => ?hAq20) ?_
          case hAq20 => first | (go_simp; rfl) | (go_simp; done) | (go_simp; exact idx_ok (by omega) (by omega)) | (go_simp; exact wi64' (by omega) (by omega) (by omega)) | (go_simp; intro hh; exfalso; omega)
          simp only [List.setIfInBounds_toArray, List.set_cons_zero, List.set_cons_succ]
          refine lx_rd 1 ?vAq21 (by kernel_rfl) (fun _ _ d _ _ h => by cases d <;> exact h) (by kernel_rfl) HS0 rfl rfl rfl (fun w' hS => ?hAq21) ?_
          case hAq21 => first | (go_simp; rfl) | (go_simp; done) | (go_simp; exact idx_ok (by omega) (by omega)) | (go_simp; exact wi64' (by omega) (by omega) (by omega)) | (go_simp; intro hh; exfalso; omega)
          simp only [List.setIfInBounds_toArray, List.set_cons_zero, List.set_cons_succ]
          refine lx_rd 2 ?vAq22 (by kernel_rfl) (fun _ _ d _ _ h => by cases d <;> exact h) (by kernel_rfl) HS0 rfl rfl rfl (fun w' hS => ?hAq22) ?_
          case hAq22 => first | (go_simp; rfl) | (go_simp; done) | (go_simp; exact idx_ok (by omega) (by omega)) | (go_simp; exact wi64' (by omega) (by omega) (by omega)) | (go_simp; intro hh; exfalso; omega)
          simp only [List.setIfInBounds_toArray, List.set_cons_zero, List.set_cons_succ]
          refine lx_rd 3 ?vAq23 (by kernel_rfl) (fun _ _ d _ _ h => by cases d <;> exact h) (by kernel_rfl) HS0 rfl rfl rfl (fun w' hS => ?hAq23) ?_
          case hAq23 => first | (go_simp; rfl) | (go_simp; done) | (go_simp; exact idx_ok (by omega) (by omega)) | (go_simp; exact wi64' (by omega) (by omega) (by omega)) | (go_simp; intro hh; exfalso; omega)
          simp only [List.setIfInBounds_toArray, List.set_cons_zero, List.set_cons_succ]
          refine lx_rd 4 (.pointer (some ⟨g1, j, none⟩)) (by kernel_rfl) (fun _ _ d _ _ h => by cases d <;> exact h) (by kernel_rfl) HS0 rfl rfl rfl (fun w' hS => ?hAq24) ?_
          case hAq24 => first | (go_simp; rfl) | (go_simp; done) | (go_simp; exact idx_ok (by omega) (by omega)) | (go_simp; exact wi64' (by omega) (by omega) (by omega)) | (go_simp; intro hh; exfalso; omega)
          simp only [List.setIfInBounds_toArray, List.set_cons_zero, List.set_cons_succ]
          refine lx_rd 5 (.int .u8 x) (by kernel_rfl) (fun _ _ d _ _ h => by cases d <;> exact h) (by kernel_rfl) HS0 rfl rfl rfl (fun w' hS => ?hAq25) ?_
          case hAq25 => subst hS; first | (go_simp; rfl) | (go_simp; done) | (go_simp; exact idx_ok (by omega) (by omega)) | (go_simp; exact wi64' (by omega) (by omega) (by omega)) | (go_simp; intro hh; exfalso; omega)
          simp only [List.setIfInBounds_toArray, List.set_cons_zero, List.set_cons_succ]
          refine lx_rd 6 ?vAq26 (by kernel_rfl) (fun _ _ d _ _ h => by cases d <;> exact h) (by kernel_rfl) HS0 rfl rfl rfl (fun w' hS => ?hAq26) ?_
          case hAq26 => first | (go_simp; rfl) | (go_simp; done) | (go_simp; exact idx_ok (by omega) (by omega)) | (go_simp; exact wi64' (by omega) (by omega) (by omega)) | (go_simp; intro hh; exfalso; omega)
          simp only [List.setIfInBounds_toArray, List.set_cons_zero, List.set_cons_succ]
          refine lx_rd 7 ?vAq27 (by kernel_rfl) (fun _ _ d _ _ h => by cases d <;> exact h) (by kernel_rfl) HS0 rfl rfl rfl (fun w' hS => ?hAq27) ?_
          case hAq27 => first | (go_simp; rfl) | (go_simp; done) | (go_simp; exact idx_ok (by omega) (by omega)) | (go_simp; exact wi64' (by omega) (by omega) (by omega)) | (go_simp; intro hh; exfalso; omega)
          simp only [List.setIfInBounds_toArray, List.set_cons_zero, List.set_cons_succ]
          refine lx_rd 8 (.pointer (some ⟨g2, j, none⟩)) (by kernel_rfl) (fun _ _ d _ _ h => by cases d <;> exact h) (by kernel_rfl) HS0 rfl rfl rfl (fun w' hS => ?hAq28) ?_
          case hAq28 => first | (go_simp; rfl) | (go_simp; done) | (go_simp; exact idx_ok (by omega) (by omega)) | (go_simp; exact wi64' (by omega) (by omega) (by omega)) | (go_simp; intro hh; exfalso; omega)
          simp only [List.setIfInBounds_toArray, List.set_cons_zero, List.set_cons_succ]
          refine lx_rd 9 (.int .u8 y) (by kernel_rfl) (fun _ _ d _ _ h => by cases d <;> exact h) (by kernel_rfl) HS0 rfl rfl rfl (fun w' hS => ?hAq29) ?_
          case hAq29 => subst hS; first | (go_simp; rfl) | (go_simp; done) | (go_simp; exact idx_ok (by omega) (by omega)) | (go_simp; exact wi64' (by omega) (by omega) (by omega)) | (go_simp; intro hh; exfalso; omega)
          simp only [List.setIfInBounds_toArray, List.set_cons_zero, List.set_cons_succ]
          refine lx_rd 10 (.int .u8 (bits .xor .u8 x y)) (by kernel_rfl) (fun _ _ d _ _ h => by cases d <;> exact h) (by kernel_rfl) HS0 rfl rfl rfl (fun w' hS => ?hAq210) ?_
          case hAq210 => first | (go_simp; rfl) | (go_simp; done) | (go_simp; exact idx_ok (by omega) (by omega)) | (go_simp; exact wi64' (by omega) (by omega) (by omega)) | (go_simp; intro hh; exfalso; omega)
          simp only [List.setIfInBounds_toArray, List.set_cons_zero, List.set_cons_succ]
          refine lx_rd 11 ?vAq211 (by kernel_rfl) (fun _ _ d _ _ h => by cases d <;> exact h) (by kernel_rfl) HS0 rfl rfl rfl (fun w' hS => ?hAq211) ?_
          case hAq211 => first | (go_simp; rfl) | (go_simp; done) | (go_simp; exact idx_ok (by omega) (by omega)) | (go_simp; exact wi64' (by omega) (by omega) (by omega)) | (go_simp; intro hh; exfalso; omega)
          simp only [List.setIfInBounds_toArray, List.set_cons_zero, List.set_cons_succ]
          refine lx_rd 12 ?vAq212 (by kernel_rfl) (fun _ _ d _ _ h => by cases d <;> exact h) (by kernel_rfl) HS0 rfl rfl rfl (fun w' hS => ?hAq212) ?_
          case hAq212 => first | (go_simp; rfl) | (go_simp; done) | (go_simp; exact idx_ok (by omega) (by omega)) | (go_simp; exact wi64' (by omega) (by omega) (by omega)) | (go_simp; intro hh; exfalso; omega)
          simp only [List.setIfInBounds_toArray, List.set_cons_zero, List.set_cons_succ]
          refine lx_rd 13 (.pointer (some ⟨g3, j, none⟩)) (by kernel_rfl) (fun _ _ d _ _ h => by cases d <;> exact h) (by kernel_rfl) HS0 rfl rfl rfl (fun w' hS => ?hAq213) ?_
          case hAq213 => first | (go_simp; rfl) | (go_simp; done) | (go_simp; exact idx_ok (by omega) (by omega)) | (go_simp; exact wi64' (by omega) (by omega) (by omega)) | (go_simp; intro hh; exfalso; omega)
          simp only [List.setIfInBounds_toArray, List.set_cons_zero, List.set_cons_succ]
          refine lx_rd 14 (.int .u8 z) (by kernel_rfl) (fun _ _ d _ _ h => by cases d <;> exact h) (by kernel_rfl) HS0 rfl rfl rfl (fun w' hS => ?hAq214) ?_
          case hAq214 => subst hS; first | (go_simp; rfl) | (go_simp; done) | (go_simp; exact idx_ok (by omega) (by omega)) | (go_simp; exact wi64' (by omega) (by omega) (by omega)) | (go_simp; intro hh; exfalso; omega)
          simp only [List.setIfInBounds_toArray, List.set_cons_zero, List.set_cons_succ]
          refine lx_rd 15 (.int .u8 (bits .xor .u8 (bits .xor .u8 x y) z)) (by kernel_rfl) (fun _ _ d _ _ h => by cases d <;> exact h) (by kernel_rfl) HS0 rfl rfl rfl (fun w' hS => ?hAq215) ?_
          case hAq215 => first | (go_simp; rfl) | (go_simp; done) | (go_simp; exact idx_ok (by omega) (by omega)) | (go_simp; exact wi64' (by omega) (by omega) (by omega)) | (go_simp; intro hh; exfalso; omega)
          simp only [List.setIfInBounds_toArray, List.set_cons_zero, List.set_cons_succ]
          refine lx_rd 16 (.pointer (some ⟨g4, j, none⟩)) (by kernel_rfl) (fun _ _ d _ _ h => by cases d <;> exact h) (by kernel_rfl) HS0 rfl rfl rfl (fun w' hS => ?hAq216) ?_
          case hAq216 => first | (go_simp; rfl) | (go_simp; done) | (go_simp; exact idx_ok (by omega) (by omega)) | (go_simp; exact wi64' (by omega) (by omega) (by omega)) | (go_simp; intro hh; exfalso; omega)
          simp only [List.setIfInBounds_toArray, List.set_cons_zero, List.set_cons_succ]
          refine lx_one 17 (by kernel_rfl) (stepT_store (w' := W.setCell ⟨g4, j, none⟩ (.int .u8 (bits .xor .u8 (bits .xor .u8 x y) z))) rfl rfl rfl ?r17q2 (fun h => by cases h) ?_)
          case r17q2 => first | (go_simp; rfl) | go_simp
          refine lx_nil (by kernel_rfl) ?_
          go_wp2_with fail
          exact ⟨⟨j + 1, by omega, by go_num, HN', fun q => frozen_setCell W _ _ g4 q HF'.out, HB'.out.setCell (show w3.heap.size ≤ g4 from Nat.le_of_eq Hg4.out) _⟩, by simp [intOf]; omega⟩
        · obtain rfl : j = n3 := by omega
          have hcl : ¬ (j : Int) < (j : Int) := by omega
          have HX3 : Hid (more 0#32 (wv X Y Z j j) = more 0#32 (X.take j) ^^^ more 0#32 (Y.take j) ^^^ more 0#32 (Z.take j)) := by
            show _ = _
            rw [wv_last]
            have k1 := lX.out
            have k2 := lY.out
            have k3 := lZ.out
            exact more_x3 _ _ _ (by simp; omega) (by simp; omega) (bX'.out.take _) (bY'.out.take _) (bZ'.out.take _)
          have B0 := HB.out.drew
          have r1 := (H1.out.carry (Nat.le_refl _) B0).takeK L1
          have r2 := (H2.out.carry (Nat.le_refl _) B0).takeK L2
          have r3 := (H3.out.carry (Nat.le_refl _) B0).takeK L3
          have r4 := rd_drew HW4.out
          have x12 := xor_uw (more 0#32 (X.take j)) (more 0#32 (Y.take j))
          have x123 := xor_uw (more 0#32 (X.take j) ^^^ more 0#32 (Y.take j)) (more 0#32 (Z.take j))
          rw [← HX3.out] at x123
          generalize X.take j = A1 at r1 x12 x123
          generalize Y.take j = A2 at r2 x12 x123
          generalize Z.take j = A3 at r3 x123
          generalize wv X Y Z j j = A4 at r4 x123
          clear HX3 H1 H2 H3 HW4 HF lX lY lZ bX' bY' bZ' Hg4
          obtain ⟨u1, U1⟩ : ∃ x, Hid (uw (more 0#32 A1) = x) := ⟨_, rfl⟩
          obtain ⟨u2, U2⟩ : ∃ x, Hid (uw (more 0#32 A2) = x) := ⟨_, rfl⟩
          obtain ⟨u3, U3⟩ : ∃ x, Hid (uw (more 0#32 A3) = x) := ⟨_, rfl⟩
          obtain ⟨u4, U4⟩ : ∃ x, Hid (uw (more 0#32 A4) = x) := ⟨_, rfl⟩
          obtain ⟨u5, U5⟩ : ∃ x, Hid (uw (more 0#32 A1 ^^^ more 0#32 A2) = x) := ⟨_, rfl⟩
          rw [U1.out, U2.out, U5.out] at x12
          rw [U5.out, U3.out, U4.out] at x123
          go_wp2_with fail
          refine wp_region_lx (fun w' => Below wr.drew.heap.size wr.drew w') [] 21 (by kernel_rfl) (by kernel_rfl) ?_
          obtain ⟨W, HW⟩ : ∃ W, Hid (wr.drew = W) := ⟨_, rfl⟩
          rw [HW.out] at r1 r2 r3 r4 B0 ⊢
          have HS0 : Below W.heap.size W W := Below.refl _ _
          have HBW : Hid (Below w3.heap.size w3 W) := B0
          clear B0 HB
          refine lx_rd 0 ?vBq20 (by kernel_rfl) (fun _ _ d _ _ h => by cases d <;> exact h) (by kernel_rfl) HS0 rfl rfl rfl (fun w' hS => ?hBq20) ?_
          case hBq20 => first | (go_simp; rfl) | (go_simp; done) | (go_simp; exact idx_ok (by omega) (by omega)) | (go_simp; exact wi64' (by omega) (by omega) (by omega)) | (go_simp; intro hh; exfalso; omega)
          simp only [List.setIfInBounds_toArray, List.set_cons_zero, List.set_cons_succ]
          refine lx_rd 2 ?vBq22 (by kernel_rfl) (fun _ _ d _ _ h => by cases d <;> exact h) (by kernel_rfl) HS0 rfl rfl rfl (fun w' hS => ?hBq22) ?_
          case hBq22 => first | (go_simp; rfl) | (go_simp; done) | (go_simp; exact idx_ok (by omega) (by omega)) | (go_simp; exact wi64' (by omega) (by omega) (by omega)) | (go_simp; intro hh; exfalso; omega)
          simp only [List.setIfInBounds_toArray, List.set_cons_zero, List.set_cons_succ]
          refine lx_rd 3 ?vBq23 (by kernel_rfl) (fun _ _ d _ _ h => by cases d <;> exact h) (by kernel_rfl) HS0 rfl rfl rfl (fun w' hS => ?hBq23) ?_
          case hBq23 => first | (go_simp; rfl) | (go_simp; done) | (go_simp; exact idx_ok (by omega) (by omega)) | (go_simp; exact wi64' (by omega) (by omega) (by omega)) | (go_simp; intro hh; exfalso; omega)
          simp only [List.setIfInBounds_toArray, List.set_cons_zero, List.set_cons_succ]
          refine lx_rd 4 (.slice (some ⟨g1, 0, none⟩) j c1) (by kernel_rfl) (fun _ _ d _ _ h => by cases d <;> exact h) (by kernel_rfl) HS0 rfl rfl rfl (fun w' hS => ?hBq24) ?_
          case hBq24 => first | (go_simp; rfl) | (go_simp; done) | (go_simp; exact idx_ok (by omega) (by omega)) | (go_simp; exact wi64' (by omega) (by omega) (by omega)) | (go_simp; intro hh; exfalso; omega)
          simp only [List.setIfInBounds_toArray, List.set_cons_zero, List.set_cons_succ]
          refine lx_rd 6 ?vBq26 (by kernel_rfl) (fun _ _ d _ _ h => by cases d <;> exact h) (by kernel_rfl) HS0 rfl rfl rfl (fun w' hS => ?hBq26) ?_
          case hBq26 => first | (go_simp; rfl) | (go_simp; done) | (go_simp; exact idx_ok (by omega) (by omega)) | (go_simp; exact wi64' (by omega) (by omega) (by omega)) | (go_simp; intro hh; exfalso; omega)
          simp only [List.setIfInBounds_toArray, List.set_cons_zero, List.set_cons_succ]
          refine lx_rd 7 ?vBq27 (by kernel_rfl) (fun _ _ d _ _ h => by cases d <;> exact h) (by kernel_rfl) HS0 rfl rfl rfl (fun w' hS => ?hBq27) ?_
          case hBq27 => first | (go_simp; rfl) | (go_simp; done) | (go_simp; exact idx_ok (by omega) (by omega)) | (go_simp; exact wi64' (by omega) (by omega) (by omega)) | (go_simp; intro hh; exfalso; omega)
          simp only [List.setIfInBounds_toArray, List.set_cons_zero, List.set_cons_succ]
          refine lx_rd 8 (.slice (some ⟨g2, 0, none⟩) j c2) (by kernel_rfl) (fun _ _ d _ _ h => by cases d <;> exact h) (by kernel_rfl) HS0 rfl rfl rfl (fun w' hS => ?hBq28) ?_
          case hBq28 => first | (go_simp; rfl) | (go_simp; done) | (go_simp; exact idx_ok (by omega) (by omega)) | (go_simp; exact wi64' (by omega) (by omega) (by omega)) | (go_simp; intro hh; exfalso; omega)
          simp only [List.setIfInBounds_toArray, List.set_cons_zero, List.set_cons_succ]
          refine lx_rd 11 ?vBq211 (by kernel_rfl) (fun _ _ d _ _ h => by cases d <;> exact h) (by kernel_rfl) HS0 rfl rfl rfl (fun w' hS => ?hBq211) ?_
          case hBq211 => first | (go_simp; rfl) | (go_simp; done) | (go_simp; exact idx_ok (by omega) (by omega)) | (go_simp; exact wi64' (by omega) (by omega) (by omega)) | (go_simp; intro hh; exfalso; omega)
          simp only [List.setIfInBounds_toArray, List.set_cons_zero, List.set_cons_succ]
          refine lx_rd 12 ?vBq212 (by kernel_rfl) (fun _ _ d _ _ h => by cases d <;> exact h) (by kernel_rfl) HS0 rfl rfl rfl (fun w' hS => ?hBq212) ?_
          case hBq212 => first | (go_simp; rfl) | (go_simp; done) | (go_simp; exact idx_ok (by omega) (by omega)) | (go_simp; exact wi64' (by omega) (by omega) (by omega)) | (go_simp; intro hh; exfalso; omega)
          simp only [List.setIfInBounds_toArray, List.set_cons_zero, List.set_cons_succ]
          refine lx_rd 13 (.slice (some ⟨g3, 0, none⟩) j c3) (by kernel_rfl) (fun _ _ d _ _ h => by cases d <;> exact h) (by kernel_rfl) HS0 rfl rfl rfl (fun w' hS => ?hBq213) ?_
          case hBq213 => first | (go_simp; rfl) | (go_simp; done) | (go_simp; exact idx_ok (by omega) (by omega)) | (go_simp; exact wi64' (by omega) (by omega) (by omega)) | (go_simp; intro hh; exfalso; omega)
          simp only [List.setIfInBounds_toArray, List.set_cons_zero, List.set_cons_succ]
          refine lx_one 1 (by kernel_rfl) (stepT_call 7 #[.slice (some ⟨g4, 0, none⟩) j j] rfl rfl rfl ?rC1q2 ?_)
          case rC1q2 => first | (go_simp; rfl) | go_simp
          refine (sum_any _ _ _ _ _ r4).mono ?_
          rintro e v1 ⟨rfl, hv⟩
          rw [U4.out]
          replace hv := hv.symm
          subst hv
          refine ⟨_, rfl, fun _ => HS0, ?_⟩
          simp only [List.setIfInBounds_toArray, List.set_cons_zero, List.set_cons_succ]
          refine lx_one 5 (by kernel_rfl) (stepT_call 7 #[.slice (some ⟨g1, 0, none⟩) j c1] rfl rfl rfl ?rC5q2 ?_)
          case rC5q2 => first | (go_simp; rfl) | go_simp
          refine (sum_any _ _ _ _ _ r1).mono ?_
          rintro e v5 ⟨rfl, hv⟩
          rw [U1.out]
          replace hv := hv.symm
          subst hv
          refine ⟨_, rfl, fun _ => HS0, ?_⟩
          simp only [List.setIfInBounds_toArray, List.set_cons_zero, List.set_cons_succ]
          refine lx_one 9 (by kernel_rfl) (stepT_call 7 #[.slice (some ⟨g2, 0, none⟩) j c2] rfl rfl rfl ?rC9q2 ?_)
          case rC9q2 => first | (go_simp; rfl) | go_simp
          refine (sum_any _ _ _ _ _ r2).mono ?_
          rintro e v9 ⟨rfl, hv⟩
          rw [U2.out]
          replace hv := hv.symm
          subst hv
          refine ⟨_, rfl, fun _ => HS0, ?_⟩
          simp only [List.setIfInBounds_toArray, List.set_cons_zero, List.set_cons_succ]
          refine lx_rd 10 (.int .u32 u5) (by kernel_rfl) (fun _ _ d _ _ h => by cases d <;> exact h) (by kernel_rfl) HS0 rfl rfl rfl (fun w' hS => ?hCq210) ?_
          case hCq210 => first | (go_simp; rfl) | (go_simp; done) | (go_simp; exact idx_ok (by omega) (by omega)) | (go_simp; exact wi64' (by omega) (by omega) (by omega)) | (go_simp; intro hh; exfalso; omega)
          simp only [List.setIfInBounds_toArray, List.set_cons_zero, List.set_cons_succ]
          refine lx_one 14 (by kernel_rfl) (stepT_call 7 #[.slice (some ⟨g3, 0, none⟩) j c3] rfl rfl rfl ?rC14q2 ?_)
          case rC14q2 => first | (go_simp; rfl) | go_simp
          refine (sum_any _ _ _ _ _ r3).mono ?_
          rintro e v14 ⟨rfl, hv⟩
          rw [U3.out]
          replace hv := hv.symm
          subst hv
          refine ⟨_, rfl, fun _ => HS0, ?_⟩
          simp only [List.setIfInBounds_toArray, List.set_cons_zero, List.set_cons_succ]
          refine lx_rd 15 (.int .u32 u4) (by kernel_rfl) (fun _ _ d _ _ h => by cases d <;> exact h) (by kernel_rfl) HS0 rfl rfl rfl (fun w' hS => ?hDq215) ?_
          case hDq215 => first | (go_simp; rfl) | (go_simp; done) | (go_simp; exact idx_ok (by omega) (by omega)) | (go_simp; exact wi64' (by omega) (by omega) (by omega)) | (go_simp; intro hh; exfalso; omega)
          simp only [List.setIfInBounds_toArray, List.set_cons_zero, List.set_cons_succ]
          refine lx_rd 16 (.bool true) (by kernel_rfl) (fun _ _ d _ _ h => by cases d <;> exact h) (by kernel_rfl) HS0 rfl rfl rfl (fun w' hS => ?hDq216) ?_
          case hDq216 => first | (go_simp; rfl) | (go_simp; done) | (go_simp; exact idx_ok (by omega) (by omega)) | (go_simp; exact wi64' (by omega) (by omega) (by omega)) | (go_simp; intro hh; exfalso; omega)
          simp only [List.setIfInBounds_toArray, List.set_cons_zero, List.set_cons_succ]
          refine lx_rd 17 (.bool true) (by kernel_rfl) (fun _ _ d _ _ h => by cases d <;> exact h) (by kernel_rfl) HS0 rfl rfl rfl (fun w' hS => ?hDq217) ?_
          case hDq217 => first | (go_simp; rfl) | (go_simp; done) | (go_simp; exact idx_ok (by omega) (by omega)) | (go_simp; exact wi64' (by omega) (by omega) (by omega)) | (go_simp; intro hh; exfalso; omega)
          simp only [List.setIfInBounds_toArray, List.set_cons_zero, List.set_cons_succ]
          refine lx_one 18 (by kernel_rfl) (stepT_call 12 #[] rfl rfl rfl ?rC18q2 ?_)
          case rC18q2 => first | (go_simp; rfl) | go_simp
          refine (wakes_any _).mono ?_
          rintro e w5 ⟨rfl, hb5⟩
          refine ⟨_, rfl, fun _ => hb5, ?_⟩
          simp only [List.setIfInBounds_toArray, List.set_cons_zero, List.set_cons_succ]
          refine lx_rd 19 (.bool true) (by kernel_rfl) (fun _ _ d _ _ h => by cases d <;> exact h) (by kernel_rfl) hb5 rfl rfl rfl (fun w' hS => ?hEq219) ?_
          case hEq219 => first | (go_simp; rfl) | (go_simp; done) | (go_simp; exact idx_ok (by omega) (by omega)) | (go_simp; exact wi64' (by omega) (by omega) (by omega)) | (go_simp; intro hh; exfalso; omega)
          simp only [List.setIfInBounds_toArray, List.set_cons_zero, List.set_cons_succ]
          refine lx_rd 20 (.bool true) (by kernel_rfl) (fun _ _ d _ _ h => by cases d <;> exact h) (by kernel_rfl) hb5 rfl rfl rfl (fun w' hS => ?hEq220) ?_
          case hEq220 => first | (go_simp; rfl) | (go_simp; done) | (go_simp; exact idx_ok (by omega) (by omega)) | (go_simp; exact wi64' (by omega) (by omega) (by omega)) | (go_simp; intro hh; exfalso; omega)
          simp only [List.setIfInBounds_toArray, List.set_cons_zero, List.set_cons_succ]
          refine lx_nil (by kernel_rfl) ?_
          go_wp2_with fail
          go_ret
          exact ⟨rfl, HB3.out.trans ((HBW.out.trans (hb5.mono HBW.out.size)).mono HB3.out.size)⟩
    · have L1 : n1 ≤ n1 := by omega
      have L2 : n1 ≤ n2 := by omega
      have L3 : n1 ≤ n3 := by omega
      obtain ⟨w4, hmk, hr4, hf4, hb4⟩ := run_mkW w3 n1 (by omega)
      obtain ⟨g4, Hg4⟩ : ∃ g, Hid (w3.heap.size = g) := ⟨_, rfl⟩
      rw [Hg4.out] at hmk hr4 hf4
      go_wp2_with fail
      have hbw : Below w3.heap.size w3 w4 := hb4
      clear hmk hb4
      go_loopw [12] (fun i wr => ∃ j : Nat, j ≤ n1 ∧ i = .int .i64 j ∧ Hid (Rd wr (some ⟨g4, 0, none⟩) n1 n1 (wv X Y Z n1 j)) ∧ Hid (∀ q, wr.frozen? ⟨g4, q, none⟩ = false) ∧ Hid (Below w3.heap.size w3 wr)) (fun i _ => n1 - (intOf i).toNat)
      case atStart => exact ⟨0, by omega, rfl, by rw [wv_zero]; exact hr4, hf4, hbw⟩
      case round =>
        obtain ⟨j, hj, rfl, HW4, HF, HB⟩ := hrel
        clear hr4 hf4 hbw
        by_cases hlt : j < n1
        · have hcl : (j : Int) < (n1 : Int) := by omega
          have hc1 : (j : Int) < (n1 : Int) := by omega
          have hc2 : (j : Int) < (n2 : Int) := by omega
          have hc3 : (j : Int) < (n3 : Int) := by omega
          have HB' : Hid (Below w3.heap.size w3 wr.drew) := HB.out.drew
          have HF' : Hid (∀ q, wr.drew.frozen? ⟨g4, q, none⟩ = false) := HF.out
          have HY' : Rd wr.drew (some ⟨g4, 0, none⟩) n1 n1 (wv X Y Z n1 j) := rd_drew HW4.out
          have d1 := cells_of (H1.out.carry (Nat.le_refl _) HB'.out) (j := j) (by omega)
          have d2 := cells_of (H2.out.carry (Nat.le_refl _) HB'.out) (j := j) (by omega)
          have d3 := cells_of (H3.out.carry (Nat.le_refl _) HB'.out) (j := j) (by omega)
          have d4 := cells_of HY' hlt
          have b8 := bits8 .xor (bits .xor .u8 (X.getD j 0) (Y.getD j 0)) (Z.getD j 0)
          have HN' : Hid (Rd (wr.drew.setCell ⟨g4, j, none⟩ (.int .u8 (bits .xor .u8 (bits .xor .u8 (X.getD j 0) (Y.getD j 0)) (Z.getD j 0)))) (some ⟨g4, 0, none⟩) n1 n1 (wv X Y Z n1 (j + 1))) := by
            show Rd _ _ _ _ _
            rw [wv_succ X Y Z n1 j hlt (by rw [lX.out]; exact L1) (by rw [lY.out]; exact L2) (by rw [lZ.out]; exact L3)]
            exact HY'.setAt hlt b8.1 b8.2
          have hf := HF'.out j
          obtain ⟨x, E1⟩ : ∃ x, Hid (X.getD j 0 = x) := ⟨_, rfl⟩
          obtain ⟨y, E2⟩ : ∃ x, Hid (Y.getD j 0 = x) := ⟨_, rfl⟩
          obtain ⟨z, E3⟩ : ∃ x, Hid (Z.getD j 0 = x) := ⟨_, rfl⟩
          obtain ⟨o, E4⟩ : ∃ x, Hid ((wv X Y Z n1 j).getD j 0 = x) := ⟨_, rfl⟩
          rw [E1.out] at d1 HN'
          rw [E2.out] at d2 HN'
          rw [E3.out] at d3 HN'
          rw [E4.out] at d4
          clear b8 HY' HW4 HF HB E1 E2 E3 E4 hlt
          go_wp2_with fail
          refine wp_region_lx (fun w' => w' = wr.drew) [17] 18 (by kernel_rfl) (by kernel_rfl) ?_
          obtain ⟨W, HW⟩ : ∃ W, Hid (wr.drew = W) := ⟨_, rfl⟩
          rw [HW.out] at HF' HB' HN' d1 d2 d3 d4 hf ⊢
          have HS0 : W = W := rfl
          refine lx_rd 0 ?vAq30 (by kernel_rfl) (fun _ _ d _ _ h => by cases d <;> exact h) (by kernel_rfl) HS0 rfl rfl rfl (fun w' hS => ?hAq30) ?_
          case hAq30 => first | (go_simp; rfl) | (go_simp; done) | (go_simp; exact idx_ok (by omega) (by omega)) | (go_simp; exact wi64' (by omega) (by omega) (by omega)) | (go_simp; intro hh; exfalso; omega)
          simp only [List.setIfInBounds_toArray, List.set_cons_zero, List.set_cons_succ]
          refine lx_rd 1 ?vAq31 (by kernel_rfl) (fun _ _ d _ _ h => by cases d <;> exact h) (by kernel_rfl) HS0 rfl rfl rfl (fun w' hS => ?hAq31) ?_
          case hAq31 => first | (go_simp; rfl) | (go_simp; done) | (go_simp; exact idx_ok (by omega) (by omega)) | (go_simp; exact wi64' (by omega) (by omega) (by omega)) | (go_simp; intro hh; exfalso; omega)
          simp only [List.setIfInBounds_toArray, List.set_cons_zero, List.set_cons_succ]
          refine lx_rd 2 ?vAq32 (by kernel_rfl) (fun _ _ d _ _ h => by cases d <;> exact h) (by kernel_rfl) HS0 rfl rfl rfl (fun w' hS => ?hAq32) ?_
          case hAq32 => first | (go_simp; rfl) | (go_simp; done) | (go_simp; exact idx_ok (by omega) (by omega)) | (go_simp; exact wi64' (by omega) (by omega) (by omega)) | (go_simp; intro hh; exfalso; omega)
          simp only [List.setIfInBounds_toArray, List.set_cons_zero, List.set_cons_succ]
          refine lx_rd 3 ?vAq33 (by kernel_rfl) (fun _ _ d _ _ h => by cases d <;> exact h) (by kernel_rfl) HS0 rfl rfl rfl (fun w' hS => ?hAq33) ?_
          case hAq33 => first | (go_simp; rfl) | (go_simp; done) | (go_simp; exact idx_ok (by omega) (by omega)) | (go_simp; exact wi64' (by omega) (by omega) (by omega)) | (go_simp; intro hh; exfalso; omega)
          simp only [List.setIfInBounds_toArray, List.set_cons_zero, List.set_cons_succ]
          refine lx_rd 4 (.pointer (some ⟨g1, j, none⟩)) (by kernel_rfl) (fun _ _ d _ _ h => by cases d <;> exact h) (by kernel_rfl) HS0 rfl rfl rfl (fun w' hS => ?hAq34) ?_
          case hAq34 => first | (go_simp; rfl) | (go_simp; done) | (go_simp; exact idx_ok (by omega) (by omega)) | (go_simp; exact wi64' (by omega) (by omega) (by omega)) | (go_simp; intro hh; exfalso; omega)
          simp only [List.setIfInBounds_toArray, List.set_cons_zero, List.set_cons_succ]
          refine lx_rd 5 (.int .u8 x) (by kernel_rfl) (fun _ _ d _ _ h => by cases d <;> exact h) (by kernel_rfl) HS0 rfl rfl rfl (fun w' hS => ?hAq35) ?_
          case hAq35 => subst hS; first | (go_simp; rfl) | (go_simp; done) | (go_simp; exact idx_ok (by omega) (by omega)) | (go_simp; exact wi64' (by omega) (by omega) (by omega)) | (go_simp; intro hh; exfalso; omega)
          simp only [List.setIfInBounds_toArray, List.set_cons_zero, List.set_cons_succ]
          refine lx_rd 6 ?vAq36 (by kernel_rfl) (fun _ _ d _ _ h => by cases d <;> exact h) (by kernel_rfl) HS0 rfl rfl rfl (fun w' hS => ?hAq36) ?_
          case hAq36 => first | (go_simp; rfl) | (go_simp; done) | (go_simp; exact idx_ok (by omega) (by omega)) | (go_simp; exact wi64' (by omega) (by omega) (by omega)) | (go_simp; intro hh; exfalso; omega)
          simp only [List.setIfInBounds_toArray, List.set_cons_zero, List.set_cons_succ]
          refine lx_rd 7 ?vAq37 (by kernel_rfl) (fun _ _ d _ _ h => by cases d <;> exact h) (by kernel_rfl) HS0 rfl rfl rfl (fun w' hS => ?hAq37) ?_
          case hAq37 => first | (go_simp; rfl) | (go_simp; done) | (go_simp; exact idx_ok (by omega) (by omega)) | (go_simp; exact wi64' (by omega) (by omega) (by omega)) | (go_simp; intro hh; exfalso; omega)
          simp only [List.setIfInBounds_toArray, List.set_cons_zero, List.set_cons_succ]
          refine lx_rd 8 (.pointer (some ⟨g2, j, none⟩)) (by kernel_rfl) (fun _ _ d _ _ h => by cases d <;> exact h) (by kernel_rfl) HS0 rfl rfl rfl (fun w' hS => ?hAq38) ?_
          case hAq38 => first | (go_simp; rfl) | (go_simp; done) | (go_simp; exact idx_ok (by omega) (by omega)) | (go_simp; exact wi64' (by omega) (by omega) (by omega)) | (go_simp; intro hh; exfalso; omega)
          simp only [List.setIfInBounds_toArray, List.set_cons_zero, List.set_cons_succ]
          refine lx_rd 9 (.int .u8 y) (by kernel_rfl) (fun _ _ d _ _ h => by cases d <;> exact h) (by kernel_rfl) HS0 rfl rfl rfl (fun w' hS => ?hAq39) ?_
          case hAq39 => subst hS; first | (go_simp; rfl) | (go_simp; done) | (go_simp; exact idx_ok (by omega) (by omega)) | (go_simp; exact wi64' (by omega) (by omega) (by omega)) | (go_simp; intro hh; exfalso; omega)
          simp only [List.setIfInBounds_toArray, List.set_cons_zero, List.set_cons_succ]
          refine lx_rd 10 (.int .u8 (bits .xor .u8 x y)) (by kernel_rfl) (fun _ _ d _ _ h => by cases d <;> exact h) (by kernel_rfl) HS0 rfl rfl rfl (fun w' hS => ?hAq310) ?_
          case hAq310 => first | (go_simp; rfl) | (go_simp; done) | (go_simp; exact idx_ok (by omega) (by omega)) | (go_simp; exact wi64' (by omega) (by omega) (by omega)) | (go_simp; intro hh; exfalso; omega)
          simp only [List.setIfInBounds_toArray, List.set_cons_zero, List.set_cons_succ]
          refine lx_rd 11 ?vAq311 (by kernel_rfl) (fun _ _ d _ _ h => by cases d <;> exact h) (by kernel_rfl) HS0 rfl rfl rfl (fun w' hS => ?hAq311) ?_
          case hAq311 => first | (go_simp; rfl) | (go_simp; done) | (go_simp; exact idx_ok (by omega) (by omega)) | (go_simp; exact wi64' (by omega) (by omega) (by omega)) | (go_simp; intro hh; exfalso; omega)
          simp only [List.setIfInBounds_toArray, List.set_cons_zero, List.set_cons_succ]
          refine lx_rd 12 ?vAq312 (by kernel_rfl) (fun _ _ d _ _ h => by cases d <;> exact h) (by kernel_rfl) HS0 rfl rfl rfl (fun w' hS => ?hAq312) ?_
          case hAq312 => first | (go_simp; rfl) | (go_simp; done) | (go_simp; exact idx_ok (by omega) (by omega)) | (go_simp; exact wi64' (by omega) (by omega) (by omega)) | (go_simp; intro hh; exfalso; omega)
          simp only [List.setIfInBounds_toArray, List.set_cons_zero, List.set_cons_succ]
          refine lx_rd 13 (.pointer (some ⟨g3, j, none⟩)) (by kernel_rfl) (fun _ _ d _ _ h => by cases d <;> exact h) (by kernel_rfl) HS0 rfl rfl rfl (fun w' hS => ?hAq313) ?_
          case hAq313 => first | (go_simp; rfl) | (go_simp; done) | (go_simp; exact idx_ok (by omega) (by omega)) | (go_simp; exact wi64' (by omega) (by omega) (by omega)) | (go_simp; intro hh; exfalso; omega)
          simp only [List.setIfInBounds_toArray, List.set_cons_zero, List.set_cons_succ]
          refine lx_rd 14 (.int .u8 z) (by kernel_rfl) (fun _ _ d _ _ h => by cases d <;> exact h) (by kernel_rfl) HS0 rfl rfl rfl (fun w' hS => ?hAq314) ?_
          case hAq314 => subst hS; first | (go_simp; rfl) | (go_simp; done) | (go_simp; exact idx_ok (by omega) (by omega)) | (go_simp; exact wi64' (by omega) (by omega) (by omega)) | (go_simp; intro hh; exfalso; omega)
          simp only [List.setIfInBounds_toArray, List.set_cons_zero, List.set_cons_succ]
          refine lx_rd 15 (.int .u8 (bits .xor .u8 (bits .xor .u8 x y) z)) (by kernel_rfl) (fun _ _ d _ _ h => by cases d <;> exact h) (by kernel_rfl) HS0 rfl rfl rfl (fun w' hS => ?hAq315) ?_
          case hAq315 => first | (go_simp; rfl) | (go_simp; done) | (go_simp; exact idx_ok (by omega) (by omega)) | (go_simp; exact wi64' (by omega) (by omega) (by omega)) | (go_simp; intro hh; exfalso; omega)
          simp only [List.setIfInBounds_toArray, List.set_cons_zero, List.set_cons_succ]
          refine lx_rd 16 (.pointer (some ⟨g4, j, none⟩)) (by kernel_rfl) (fun _ _ d _ _ h => by cases d <;> exact h) (by kernel_rfl) HS0 rfl rfl rfl (fun w' hS => ?hAq316) ?_
          case hAq316 => first | (go_simp; rfl) | (go_simp; done) | (go_simp; exact idx_ok (by omega) (by omega)) | (go_simp; exact wi64' (by omega) (by omega) (by omega)) | (go_simp; intro hh; exfalso; omega)
          simp only [List.setIfInBounds_toArray, List.set_cons_zero, List.set_cons_succ]
          refine lx_one 17 (by kernel_rfl) (stepT_store (w' := W.setCell ⟨g4, j, none⟩ (.int .u8 (bits .xor .u8 (bits .xor .u8 x y) z))) rfl rfl rfl ?r17q3 (fun h => by cases h) ?_)
          case r17q3 => first | (go_simp; rfl) | go_simp
          refine lx_nil (by kernel_rfl) ?_
          go_wp2_with fail
          exact ⟨⟨j + 1, by omega, by go_num, HN', fun q => frozen_setCell W _ _ g4 q HF'.out, HB'.out.setCell (show w3.heap.size ≤ g4 from Nat.le_of_eq Hg4.out) _⟩, by simp [intOf]; omega⟩
        · obtain rfl : j = n1 := by omega
          have hcl : ¬ (j : Int) < (j : Int) := by omega
          have HX3 : Hid (more 0#32 (wv X Y Z j j) = more 0#32 (X.take j) ^^^ more 0#32 (Y.take j) ^^^ more 0#32 (Z.take j)) := by
            show _ = _
            rw [wv_last]
            have k1 := lX.out
            have k2 := lY.out
            have k3 := lZ.out
            exact more_x3 _ _ _ (by simp; omega) (by simp; omega) (bX'.out.take _) (bY'.out.take _) (bZ'.out.take _)
          have B0 := HB.out.drew
          have r1 := (H1.out.carry (Nat.le_refl _) B0).takeK L1
          have r2 := (H2.out.carry (Nat.le_refl _) B0).takeK L2
          have r3 := (H3.out.carry (Nat.le_refl _) B0).takeK L3
          have r4 := rd_drew HW4.out
          have x12 := xor_uw (more 0#32 (X.take j)) (more 0#32 (Y.take j))
          have x123 := xor_uw (more 0#32 (X.take j) ^^^ more 0#32 (Y.take j)) (more 0#32 (Z.take j))
          rw [← HX3.out] at x123
          generalize X.take j = A1 at r1 x12 x123
          generalize Y.take j = A2 at r2 x12 x123
          generalize Z.take j = A3 at r3 x123
          generalize wv X Y Z j j = A4 at r4 x123
          clear HX3 H1 H2 H3 HW4 HF lX lY lZ bX' bY' bZ' Hg4
          obtain ⟨u1, U1⟩ : ∃ x, Hid (uw (more 0#32 A1) = x) := ⟨_, rfl⟩
          obtain ⟨u2, U2⟩ : ∃ x, Hid (uw (more 0#32 A2) = x) := ⟨_, rfl⟩
          obtain ⟨u3, U3⟩ : ∃ x, Hid (uw (more 0#32 A3) = x) := ⟨_, rfl⟩
          obtain ⟨u4, U4⟩ : ∃ x, Hid (uw (more 0#32 A4) = x) := ⟨_, rfl⟩
          obtain ⟨u5, U5⟩ : ∃ x, Hid (uw (more 0#32 A1 ^^^ more 0#32 A2) = x) := ⟨_, rfl⟩
          rw [U1.out, U2.out, U5.out] at x12
          rw [U5.out, U3.out, U4.out] at x123
          go_wp2_with fail
          refine wp_region_lx (fun w' => Below wr.drew.heap.size wr.drew w') [] 21 (by kernel_rfl) (by kernel_rfl) ?_
          obtain ⟨W, HW⟩ : ∃ W, Hid (wr.drew = W) := ⟨_, rfl⟩
          rw [HW.out] at r1 r2 r3 r4 B0 ⊢
          have HS0 : Below W.heap.size W W := Below.refl _ _
          have HBW : Hid (Below w3.heap.size w3 W) := B0
          clear B0 HB
          refine lx_rd 0 ?vBq30 (by kernel_rfl) (fun _ _ d _ _ h => by cases d <;> exact h) (by kernel_rfl) HS0 rfl rfl rfl (fun w' hS => ?hBq30) ?_
          case hBq30 => first | (go_simp; rfl) | (go_simp; done) | (go_simp; exact idx_ok (by omega) (by omega)) | (go_simp; exact wi64' (by omega) (by omega) (by omega)) | (go_simp; intro hh; exfalso; omega)
          simp only [List.setIfInBounds_toArray, List.set_cons_zero, List.set_cons_succ]
          refine lx_rd 2 ?vBq32 (by kernel_rfl) (fun _ _ d _ _ h => by cases d <;> exact h) (by kernel_rfl) HS0 rfl rfl rfl (fun w' hS => ?hBq32) ?_
          case hBq32 => first | (go_simp; rfl) | (go_simp; done) | (go_simp; exact idx_ok (by omega) (by omega)) | (go_simp; exact wi64' (by omega) (by omega) (by omega)) | (go_simp; intro hh; exfalso; omega)
          simp only [List.setIfInBounds_toArray, List.set_cons_zero, List.set_cons_succ]
          refine lx_rd 3 ?vBq33 (by kernel_rfl) (fun _ _ d _ _ h => by cases d <;> exact h) (by kernel_rfl) HS0 rfl rfl rfl (fun w' hS => ?hBq33) ?_
          case hBq33 => first | (go_simp; rfl) | (go_simp; done) | (go_simp; exact idx_ok (by omega) (by omega)) | (go_simp; exact wi64' (by omega) (by omega) (by omega)) | (go_simp; intro hh; exfalso; omega)
          simp only [List.setIfInBounds_toArray, List.set_cons_zero, List.set_cons_succ]
          refine lx_rd 4 (.slice (some ⟨g1, 0, none⟩) j c1) (by kernel_rfl) (fun _ _ d _ _ h => by cases d <;> exact h) (by kernel_rfl) HS0 rfl rfl rfl (fun w' hS => ?hBq34) ?_
          case hBq34 => first | (go_simp; rfl) | (go_simp; done) | (go_simp; exact idx_ok (by omega) (by omega)) | (go_simp; exact wi64' (by omega) (by omega) (by omega)) | (go_simp; intro hh; exfalso; omega)
          simp only [List.setIfInBounds_toArray, List.set_cons_zero, List.set_cons_succ]
          refine lx_rd 6 ?vBq36 (by kernel_rfl) (fun _ _ d _ _ h => by cases d <;> exact h) (by kernel_rfl) HS0 rfl rfl rfl (fun w' hS => ?hBq36) ?_
          case hBq36 => first | (go_simp; rfl) | (go_simp; done) | (go_simp; exact idx_ok (by omega) (by omega)) | (go_simp; exact wi64' (by omega) (by omega) (by omega)) | (go_simp; intro hh; exfalso; omega)
          simp only [List.setIfInBounds_toArray, List.set_cons_zero, List.set_cons_succ]
          refine lx_rd 7 ?vBq37 (by kernel_rfl) (fun _ _ d _ _ h => by cases d <;> exact h) (by kernel_rfl) HS0 rfl rfl rfl (fun w' hS => ?hBq37) ?_
          case hBq37 => first | (go_simp; rfl) | (go_simp; done) | (go_simp; exact idx_ok (by omega) (by omega)) | (go_simp; exact wi64' (by omega) (by omega) (by omega)) | (go_simp; intro hh; exfalso; omega)
          simp only [List.setIfInBounds_toArray, List.set_cons_zero, List.set_cons_succ]
          refine lx_rd 8 (.slice (some ⟨g2, 0, none⟩) j c2) (by kernel_rfl) (fun _ _ d _ _ h => by cases d <;> exact h) (by kernel_rfl) HS0 rfl rfl rfl (fun w' hS => ?hBq38) ?_
          case hBq38 => first | (go_simp; rfl) | (go_simp; done) | (go_simp; exact idx_ok (by omega) (by omega)) | (go_simp; exact wi64' (by omega) (by omega) (by omega)) | (go_simp; intro hh; exfalso; omega)
          simp only [List.setIfInBounds_toArray, List.set_cons_zero, List.set_cons_succ]
          refine lx_rd 11 ?vBq311 (by kernel_rfl) (fun _ _ d _ _ h => by cases d <;> exact h) (by kernel_rfl) HS0 rfl rfl rfl (fun w' hS => ?hBq311) ?_
          case hBq311 => first | (go_simp; rfl) | (go_simp; done) | (go_simp; exact idx_ok (by omega) (by omega)) | (go_simp; exact wi64' (by omega) (by omega) (by omega)) | (go_simp; intro hh; exfalso; omega)
          simp only [List.setIfInBounds_toArray, List.set_cons_zero, List.set_cons_succ]
          refine lx_rd 12 ?vBq312 (by kernel_rfl) (fun _ _ d _ _ h => by cases d <;> exact h) (by kernel_rfl) HS0 rfl rfl rfl (fun w' hS => ?hBq312) ?_
          case hBq312 => first | (go_simp; rfl) | (go_simp; done) | (go_simp; exact idx_ok (by omega) (by omega)) | (go_simp; exact wi64' (by omega) (by omega) (by omega)) | (go_simp; intro hh; exfalso; omega)
          simp only [List.setIfInBounds_toArray, List.set_cons_zero, List.set_cons_succ]
          refine lx_rd 13 (.slice (some ⟨g3, 0, none⟩) j c3) (by kernel_rfl) (fun _ _ d _ _ h => by cases d <;> exact h) (by kernel_rfl) HS0 rfl rfl rfl (fun w' hS => ?hBq313) ?_
          case hBq313 => first | (go_simp; rfl) | (go_simp; done) | (go_simp; exact idx_ok (by omega) (by omega)) | (go_simp; exact wi64' (by omega) (by omega) (by omega)) | (go_simp; intro hh; exfalso; omega)
          simp only [List.setIfInBounds_toArray, List.set_cons_zero, List.set_cons_succ]
          refine lx_one 1 (by kernel_rfl) (stepT_call 7 #[.slice (some ⟨g4, 0, none⟩) j j] rfl rfl rfl ?rC1q3 ?_)
          case rC1q3 => first | (go_simp; rfl) | go_simp
          refine (sum_any _ _ _ _ _ r4).mono ?_
          rintro e v1 ⟨rfl, hv⟩
          rw [U4.out]
          replace hv := hv.symm
          subst hv
          refine ⟨_, rfl, fun _ => HS0, ?_⟩
          simp only [List.setIfInBounds_toArray, List.set_cons_zero, List.set_cons_succ]
          refine lx_one 5 (by kernel_rfl) (stepT_call 7 #[.slice (some ⟨g1, 0, none⟩) j c1] rfl rfl rfl ?rC5q3 ?_)
          case rC5q3 => first | (go_simp; rfl) | go_simp
          refine (sum_any _ _ _ _ _ r1).mono ?_
          rintro e v5 ⟨rfl, hv⟩
          rw [U1.out]
          replace hv := hv.symm
          subst hv
          refine ⟨_, rfl, fun _ => HS0, ?_⟩
          simp only [List.setIfInBounds_toArray, List.set_cons_zero, List.set_cons_succ]
          refine lx_one 9 (by kernel_rfl) (stepT_call 7 #[.slice (some ⟨g2, 0, none⟩) j c2] rfl rfl rfl ?rC9q3 ?_)
          case rC9q3 => first | (go_simp; rfl) | go_simp
          refine (sum_any _ _ _ _ _ r2).mono ?_
          rintro e v9 ⟨rfl, hv⟩
          rw [U2.out]
          replace hv := hv.symm
          subst hv
          refine ⟨_, rfl, fun _ => HS0, ?_⟩
          simp only [List.setIfInBounds_toArray, List.set_cons_zero, List.set_cons_succ]
          refine lx_rd 10 (.int .u32 u5) (by kernel_rfl) (fun _ _ d _ _ h => by cases d <;> exact h) (by kernel_rfl) HS0 rfl rfl rfl (fun w' hS => ?hCq310) ?_
          case hCq310 => first | (go_simp; rfl) | (go_simp; done) | (go_simp; exact idx_ok (by omega) (by omega)) | (go_simp; exact wi64' (by omega) (by omega) (by omega)) | (go_simp; intro hh; exfalso; omega)
          simp only [List.setIfInBounds_toArray, List.set_cons_zero, List.set_cons_succ]
          refine lx_one 14 (by kernel_rfl) (stepT_call 7 #[.slice (some ⟨g3, 0, none⟩) j c3] rfl rfl rfl ?rC14q3 ?_)
          case rC14q3 => first | (go_simp; rfl) | go_simp
          refine (sum_any _ _ _ _ _ r3).mono ?_
          rintro e v14 ⟨rfl, hv⟩
          rw [U3.out]
          replace hv := hv.symm
          subst hv
          refine ⟨_, rfl, fun _ => HS0, ?_⟩
          simp only [List.setIfInBounds_toArray, List.set_cons_zero, List.set_cons_succ]
          refine lx_rd 15 (.int .u32 u4) (by kernel_rfl) (fun _ _ d _ _ h => by cases d <;> exact h) (by kernel_rfl) HS0 rfl rfl rfl (fun w' hS => ?hDq315) ?_
          case hDq315 => first | (go_simp; rfl) | (go_simp; done) | (go_simp; exact idx_ok (by omega) (by omega)) | (go_simp; exact wi64' (by omega) (by omega) (by omega)) | (go_simp; intro hh; exfalso; omega)
          simp only [List.setIfInBounds_toArray, List.set_cons_zero, List.set_cons_succ]
          refine lx_rd 16 (.bool true) (by kernel_rfl) (fun _ _ d _ _ h => by cases d <;> exact h) (by kernel_rfl) HS0 rfl rfl rfl (fun w' hS => ?hDq316) ?_
          case hDq316 => first | (go_simp; rfl) | (go_simp; done) | (go_simp; exact idx_ok (by omega) (by omega)) | (go_simp; exact wi64' (by omega) (by omega) (by omega)) | (go_simp; intro hh; exfalso; omega)
          simp only [List.setIfInBounds_toArray, List.set_cons_zero, List.set_cons_succ]
          refine lx_rd 17 (.bool true) (by kernel_rfl) (fun _ _ d _ _ h => by cases d <;> exact h) (by kernel_rfl) HS0 rfl rfl rfl (fun w' hS => ?hDq317) ?_
          case hDq317 => first | (go_simp; rfl) | (go_simp; done) | (go_simp; exact idx_ok (by omega) (by omega)) | (go_simp; exact wi64' (by omega) (by omega) (by omega)) | (go_simp; intro hh; exfalso; omega)
          simp only [List.setIfInBounds_toArray, List.set_cons_zero, List.set_cons_succ]
          refine lx_one 18 (by kernel_rfl) (stepT_call 12 #[] rfl rfl rfl ?rC18q3 ?_)
          case rC18q3 => first | (go_simp; rfl) | go_simp
          refine (wakes_any _).mono ?_
          rintro e w5 ⟨rfl, hb5⟩
          refine ⟨_, rfl, fun _ => hb5, ?_⟩
          simp only [List.setIfInBounds_toArray, List.set_cons_zero, List.set_cons_succ]
          refine lx_rd 19 (.bool true) (by kernel_rfl) (fun _ _ d _ _ h => by cases d <;> exact h) (by kernel_rfl) hb5 rfl rfl rfl (fun w' hS => ?hEq319) ?_
          case hEq319 => first | (go_simp; rfl) | (go_simp; done) | (go_simp; exact idx_ok (by omega) (by omega)) | (go_simp; exact wi64' (by omega) (by omega) (by omega)) | (go_simp; intro hh; exfalso; omega)
          simp only [List.setIfInBounds_toArray, List.set_cons_zero, List.set_cons_succ]
          refine lx_rd 20 (.bool true) (by kernel_rfl) (fun _ _ d _ _ h => by cases d <;> exact h) (by kernel_rfl) hb5 rfl rfl rfl (fun w' hS => ?hEq320) ?_
          case hEq320 => first | (go_simp; rfl) | (go_simp; done) | (go_simp; exact idx_ok (by omega) (by omega)) | (go_simp; exact wi64' (by omega) (by omega) (by omega)) | (go_simp; intro hh; exfalso; omega)
          simp only [List.setIfInBounds_toArray, List.set_cons_zero, List.set_cons_succ]
          refine lx_nil (by kernel_rfl) ?_
          go_wp2_with fail
          go_ret
          exact ⟨rfl, HB3.out.trans ((HBW.out.trans (hb5.mono HBW.out.size)).mono HB3.out.size)⟩
end crcXor
end Go.Proofs.Ythcgfdalgmcpgaa
