/- A row of forms: its first record. -/
import Derived.Test.YtikkieaokfailaaGreatDoorLgN
namespace Go.Proofs.YtikkieaokfailaaGreatDoor
open Go.RowKit Go.Joins

theorem Rd.take4 {w : World} {a : Option Addr} {n c : Nat} {xs : List Int} (h : Rd w a n c xs) {k : Nat} (hk : k ≤ n) : Rd w a k c (xs.take k) := h.takeK hk

theorem recO_small {xs : List Int} (h : xs.length < 8) : recO xs = none := by unfold recO; rw [if_pos h]
theorem recO_big {xs : List Int} (h : ¬ xs.length < 8) (h2 : numL (xs.take 4) > 1048576 ∨ numL (xs.take 4) > xs.length - 8) : recO xs = none := by unfold recO; rw [if_neg h, if_pos h2]
theorem recO_sum {xs : List Int} (h : ¬ xs.length < 8) (h2 : ¬ (numL (xs.take 4) > 1048576 ∨ numL (xs.take 4) > xs.length - 8)) : recO xs = if crcN ((xs.drop 8).take (numL (xs.take 4))) = numL ((xs.drop 4).take 4) then some ((xs.drop 8).take (numL (xs.take 4))) else none := by unfold recO; rw [if_neg h, if_neg h2]

/-- row[8:]: behind the head. -/
theorem behind8 (b off n c : Nat) (hn : 8 ≤ n) (hc : n ≤ c) (hc2 : c ≤ 9223372036854775807) : ∃ o8, (∀ W, (Instr.sliceAt 29 (.slice (some ⟨b, off, none⟩) n c) (some (.int .i64 8)) none none).run Tryz.prog W = .ok (.slice (some ⟨b, o8, none⟩) (n - 8) (c - 8)) W) ∧ (∀ (w : World) (xs : List Int), Rd w (some ⟨b, off, none⟩) n c xs → Rd w (some ⟨b, o8, none⟩) (n - 8) (c - 8) (xs.drop 8)) := by
  have h1 : (8 : Int) ≤ (n : Int) := by omega
  have h2 : (n : Int) ≤ (c : Int) := by omega
  by_cases h8 : c = 8
  · subst h8
    obtain rfl : n = 8 := by omega
    refine ⟨off, fun W => ?_, fun w xs h => ?_⟩
    · go_simp
    · have hl := h.len
      rw [List.drop_eq_nil_of_le (by omega)]
      exact ⟨rfl, Nat.le_refl _, by unfold maxLen; omega, (fun e => by cases e), Bd.nil, fun _ _ j hj => by omega⟩
  · refine ⟨off + 8, fun W => ?_, fun w xs h => h.dropN hn⟩
    have h3 : ¬ (8 : Int) = (c : Int) := by omega
    have h4 : ¬ (c : Int) = 8 := by omega
    have h5 : ¬ (8 : Nat) = c := by omega
    go_simp
/-- What record answers. -/
def Rec1 (w : World) (xs : List Int) (e : Ending) : Prop := match recO xs with
  | none => ∃ v, e = .returned (.tuple #[v, .bool false])
  | some r => ∃ a' c', e = .returned (.tuple #[.slice a' r.length c', .bool true]) ∧ Rd w a' r.length c' r

set_option maxHeartbeats 2000000 in
theorem record_any (b off n c : Nat) (xs : List Int) (w : World) (hR : Rd w (some ⟨b, off, none⟩) n c xs) (hn9 : n ≤ 1000000000) :
    Calls Tryz.prog 154 #[.slice (some ⟨b, off, none⟩) n c] w fun e w' => Rec1 w xs e ∧ Below w.heap.size w w' := by
  have hl := hR.len
  have hcp := hR.cap
  have hmx : c ≤ 9223372036854775807 := hR.most
  by_cases h8 : n < 8
  · have hE : recO xs = none := recO_small (by omega)
    have HR : ∀ e, Rec1 w xs e = ∃ v, e = .returned (.tuple #[v, .bool false]) := fun e => by unfold Rec1; rw [hE]
    simp only [HR]
    have hz : (n : Int) < 8 := by omega
    clear HR hE hl
    go_enter Tryz.func154, Tryz.ntmps154
    go_wp2
    go_ret2
    exact ⟨⟨_, rfl⟩, Below.refl _ _⟩
  · have hz : ¬ (n : Int) < 8 := by omega
    have hz4 : (4 : Int) ≤ (c : Int) := by omega
    have hz8 : (8 : Int) ≤ (c : Int) := by omega
    have hzn : (8 : Int) ≤ (n : Int) := by omega
    have hc4 : ¬ c = 4 := by omega
    have hnc : (n : Int) ≤ (c : Int) := by omega
    obtain ⟨o8, hsl, hrd8⟩ := behind8 b off n c (by omega) hcp hmx
    have hr1 : Rd w (some ⟨b, off, none⟩) 4 c (xs.take 4) := hR.take4 (by omega)
    have hr2 : Rd w (some ⟨b, off + 4, none⟩) 4 (c - 4) ((xs.drop 4).take 4) := (hR.dropN (k := 4) (by omega)).take4 (by omega)
    have hr3 := hrd8 w xs hR
    have hK := numL_lt4 hr1.bytes (by rw [hr1.len]; omega)
    have hS4 := numL_lt4 hr2.bytes (by rw [hr2.len]; omega)
    have hn1 := fun w' (hb : Below w.heap.size w w') => number_any _ 4 c (xs.take 4) w' (hr1.carry (Nat.le_refl _) hb) (by omega)
    have hn2 := fun w' (hb : Below w.heap.size w w') => number_any _ 4 (c - 4) ((xs.drop 4).take 4) w' (hr2.carry (Nat.le_refl _) hb) (by omega)
    have hbig : numL (xs.take 4) > 1048576 ∨ numL (xs.take 4) > xs.length - 8 → recO xs = none := fun h => recO_big (by omega) h
    have hsum := fun h => recO_sum (xs := xs) (by omega) h
    rw [hl] at hbig hsum
    obtain ⟨K, HK⟩ : ∃ K, Hid (numL (xs.take 4) = K) := ⟨_, rfl⟩
    obtain ⟨S, HS⟩ : ∃ S, Hid (numL ((xs.drop 4).take 4) = S) := ⟨_, rfl⟩
    simp only [HK.out] at hK hn1 hbig hsum
    simp only [HS.out] at hS4 hn2 hsum
    clear hrd8 hr1 hr2
    have HW : Below w.heap.size w w.drew := (Below.refl _ _).drew
    by_cases hbg : K > 1048576 ∨ K > n - 8
    · have hE := hbig hbg
      have HR : ∀ e, Rec1 w xs e = ∃ v, e = .returned (.tuple #[v, .bool false]) := fun e => by unfold Rec1; rw [hE]
      simp only [HR]
      clear HR hE hbig hsum hl
      go_enter Tryz.func154, Tryz.ntmps154
      go_upto_region 3 with fail
      refine wp_region_lx (fun w' => w' = w.drew) [] 11 (by kernel_rfl) (by kernel_rfl) ?_
      have HSx : w.drew = w.drew := rfl
      refine lx_rd 0 ?va10 (by kernel_rfl) (fun _ _ d _ _ h => by cases d <;> exact h) (by kernel_rfl) HSx rfl rfl rfl (fun w' hS => ?ha10) ?_
      case ha10 => first | (go_simp; rfl) | go_simp
      simp only [List.setIfInBounds_toArray, List.set_cons_zero, List.set_cons_succ]
      refine lx_rd 1 (.slice (some ⟨b, off, none⟩) 4 c) (by kernel_rfl) (fun _ _ d _ _ h => by cases d <;> exact h) (by kernel_rfl) HSx rfl rfl rfl (fun w' hS => ?ha11) ?_
      case ha11 => first | (go_simp; rfl) | go_simp
      simp only [List.setIfInBounds_toArray, List.set_cons_zero, List.set_cons_succ]
      refine lx_rd 3 ?va13 (by kernel_rfl) (fun _ _ d _ _ h => by cases d <;> exact h) (by kernel_rfl) HSx rfl rfl rfl (fun w' hS => ?ha13) ?_
      case ha13 => first | (go_simp; rfl) | go_simp
      simp only [List.setIfInBounds_toArray, List.set_cons_zero, List.set_cons_succ]
      refine lx_rd 4 (.slice (some ⟨b, off + 4, none⟩) 4 (c - 4)) (by kernel_rfl) (fun _ _ d _ _ h => by cases d <;> exact h) (by kernel_rfl) HSx rfl rfl rfl (fun w' hS => ?ha14) ?_
      case ha14 => first | (go_simp; rfl) | go_simp
      simp only [List.setIfInBounds_toArray, List.set_cons_zero, List.set_cons_succ]
      refine lx_rd 6 ?va16 (by kernel_rfl) (fun _ _ d _ _ h => by cases d <;> exact h) (by kernel_rfl) HSx rfl rfl rfl (fun w' hS => ?ha16) ?_
      case ha16 => first | (go_simp; rfl) | go_simp
      simp only [List.setIfInBounds_toArray, List.set_cons_zero, List.set_cons_succ]
      refine lx_rd 7 (.slice (some ⟨b, o8, none⟩) (n - 8) (c - 8)) (by kernel_rfl) (fun _ _ d _ _ h => by cases d <;> exact h) (by kernel_rfl) HSx rfl rfl rfl (fun w' hS => ?ha17) ?_
      case ha17 => first | (go_simp; rfl) | go_simp
      simp only [List.setIfInBounds_toArray, List.set_cons_zero, List.set_cons_succ]
      refine lx_one 2 (by kernel_rfl) (stepT_call 130 ?a2x1 rfl rfl rfl ?r2x1 ?_)
      case r2x1 => first | (go_simp; rfl) | go_simp
      refine (hn1 _ HW).mono ?_
      rintro e w1 ⟨rfl, h1w⟩
      replace h1w := h1w.symm
      subst h1w
      refine ⟨_, rfl, fun _ => rfl, ?_⟩
      simp only [List.setIfInBounds_toArray, List.set_cons_zero, List.set_cons_succ]
      refine lx_one 5 (by kernel_rfl) (stepT_call 130 ?a5x1 rfl rfl rfl ?r5x1 ?_)
      case r5x1 => first | (go_simp; rfl) | go_simp
      refine (hn2 _ HW).mono ?_
      rintro e w1 ⟨rfl, h1w⟩
      replace h1w := h1w.symm
      subst h1w
      refine ⟨_, rfl, fun _ => rfl, ?_⟩
      simp only [List.setIfInBounds_toArray, List.set_cons_zero, List.set_cons_succ]
      refine lx_rd 8 ?vb18 (by kernel_rfl) (fun _ _ d _ _ h => by cases d <;> exact h) (by kernel_rfl) HSx rfl rfl rfl (fun w' hS => ?hb18) ?_
      case hb18 => first | (go_simp; rfl) | go_simp
      simp only [List.setIfInBounds_toArray, List.set_cons_zero, List.set_cons_succ]
      refine lx_rd 9 ?vb19 (by kernel_rfl) (fun _ _ d _ _ h => by cases d <;> exact h) (by kernel_rfl) HSx rfl rfl rfl (fun w' hS => ?hb19) ?_
      case hb19 => first | (go_simp; rfl) | go_simp
      simp only [List.setIfInBounds_toArray, List.set_cons_zero, List.set_cons_succ]
      refine lx_rd 10 ?vb110 (by kernel_rfl) (fun _ _ d _ _ h => by cases d <;> exact h) (by kernel_rfl) HSx rfl rfl rfl (fun w' hS => ?hb110) ?_
      case hb110 => first | (go_simp; rfl) | go_simp
      simp only [List.setIfInBounds_toArray, List.set_cons_zero, List.set_cons_succ]
      refine lx_nil (by kernel_rfl) ?_
      have hi1 : ((n - 8 : Nat) : Int) = (n : Int) - 8 := by omega
      by_cases h1 : (1048576 : Int) < (K : Int)
      · go_wp2
        go_ret2
        exact ⟨⟨_, rfl⟩, HW⟩
      · have h2 : ((n - 8 : Nat) : Int) < (K : Int) := by omega
        have h2' : (n : Int) - 8 < (K : Int) := by omega
        go_wp2
        go_ret2
        exact ⟨⟨_, rfl⟩, HW⟩
    · have hE := hsum hbg
      have h1 : ¬ (1048576 : Int) < (K : Int) := by omega
      have h2 : ¬ ((n - 8 : Nat) : Int) < (K : Int) := by omega
      have hi1 : ((n - 8 : Nat) : Int) = (n : Int) - 8 := by omega
      have h2' : ¬ (n : Int) - 8 < (K : Int) := by omega
      have hKn : K ≤ n - 8 := by omega
      have hr4 := hr3.take4 hKn
      have hSm := fun w' (hb : Below w.heap.size w w') => sumN_any _ K (c - 8) ((xs.drop 8).take K) w' (hr4.carry (Nat.le_refl _) hb)
      have hCl := crcN_lt ((xs.drop 8).take K)
      obtain ⟨T, HT⟩ : ∃ T, Hid ((xs.drop 8).take K = T) := ⟨_, rfl⟩
      rw [HT.out] at hr4 hE hCl
      simp only [HT.out] at hSm
      obtain ⟨C, HC⟩ : ∃ C, Hid (crcN T = C) := ⟨_, rfl⟩
      rw [HC.out] at hE hCl
      simp only [HC.out] at hSm
      have hCz : (C : Int) < 4294967296 := by omega
      have hKc : (K : Int) ≤ ((c - 8 : Nat) : Int) := by omega
      have hKc2 : (K : Int) ≤ (c : Int) - 8 := by omega
      have hTl : T.length = K := hr4.len
      have HR : ∀ e, Rec1 w xs e = match (if C = S then some T else none) with
          | none => ∃ v, e = .returned (.tuple #[v, .bool false])
          | some r => ∃ a' c', e = .returned (.tuple #[.slice a' r.length c', .bool true]) ∧ Rd w a' r.length c' r := fun e => by unfold Rec1; rw [hE]
      simp only [HR]
      clear HR hE hbig hsum hbg hl
      have Hr4 : Hid (Rd w (some ⟨b, o8, none⟩) K (c - 8) T) := hr4
      clear hr4
      by_cases hCS : C = S
      · subst hCS
        rw [if_pos rfl]
        go_enter Tryz.func154, Tryz.ntmps154
        go_upto_region 3 with fail
        refine wp_region_lx (fun w' => w' = w.drew) [] 11 (by kernel_rfl) (by kernel_rfl) ?_
        have HSx : w.drew = w.drew := rfl
        refine lx_rd 0 ?va20 (by kernel_rfl) (fun _ _ d _ _ h => by cases d <;> exact h) (by kernel_rfl) HSx rfl rfl rfl (fun w' hS => ?ha20) ?_
        case ha20 => first | (go_simp; rfl) | go_simp
        simp only [List.setIfInBounds_toArray, List.set_cons_zero, List.set_cons_succ]
        refine lx_rd 1 (.slice (some ⟨b, off, none⟩) 4 c) (by kernel_rfl) (fun _ _ d _ _ h => by cases d <;> exact h) (by kernel_rfl) HSx rfl rfl rfl (fun w' hS => ?ha21) ?_
        case ha21 => first | (go_simp; rfl) | go_simp
        simp only [List.setIfInBounds_toArray, List.set_cons_zero, List.set_cons_succ]
        refine lx_rd 3 ?va23 (by kernel_rfl) (fun _ _ d _ _ h => by cases d <;> exact h) (by kernel_rfl) HSx rfl rfl rfl (fun w' hS => ?ha23) ?_
        case ha23 => first | (go_simp; rfl) | go_simp
        simp only [List.setIfInBounds_toArray, List.set_cons_zero, List.set_cons_succ]
        refine lx_rd 4 (.slice (some ⟨b, off + 4, none⟩) 4 (c - 4)) (by kernel_rfl) (fun _ _ d _ _ h => by cases d <;> exact h) (by kernel_rfl) HSx rfl rfl rfl (fun w' hS => ?ha24) ?_
        case ha24 => first | (go_simp; rfl) | go_simp
        simp only [List.setIfInBounds_toArray, List.set_cons_zero, List.set_cons_succ]
        refine lx_rd 6 ?va26 (by kernel_rfl) (fun _ _ d _ _ h => by cases d <;> exact h) (by kernel_rfl) HSx rfl rfl rfl (fun w' hS => ?ha26) ?_
        case ha26 => first | (go_simp; rfl) | go_simp
        simp only [List.setIfInBounds_toArray, List.set_cons_zero, List.set_cons_succ]
        refine lx_rd 7 (.slice (some ⟨b, o8, none⟩) (n - 8) (c - 8)) (by kernel_rfl) (fun _ _ d _ _ h => by cases d <;> exact h) (by kernel_rfl) HSx rfl rfl rfl (fun w' hS => ?ha27) ?_
        case ha27 => first | (go_simp; rfl) | go_simp
        simp only [List.setIfInBounds_toArray, List.set_cons_zero, List.set_cons_succ]
        refine lx_one 2 (by kernel_rfl) (stepT_call 130 ?a2x2 rfl rfl rfl ?r2x2 ?_)
        case r2x2 => first | (go_simp; rfl) | go_simp
        refine (hn1 _ HW).mono ?_
        rintro e w1 ⟨rfl, h1w⟩
        replace h1w := h1w.symm
        subst h1w
        refine ⟨_, rfl, fun _ => rfl, ?_⟩
        simp only [List.setIfInBounds_toArray, List.set_cons_zero, List.set_cons_succ]
        refine lx_one 5 (by kernel_rfl) (stepT_call 130 ?a5x2 rfl rfl rfl ?r5x2 ?_)
        case r5x2 => first | (go_simp; rfl) | go_simp
        refine (hn2 _ HW).mono ?_
        rintro e w1 ⟨rfl, h1w⟩
        replace h1w := h1w.symm
        subst h1w
        refine ⟨_, rfl, fun _ => rfl, ?_⟩
        simp only [List.setIfInBounds_toArray, List.set_cons_zero, List.set_cons_succ]
        refine lx_rd 8 ?vb28 (by kernel_rfl) (fun _ _ d _ _ h => by cases d <;> exact h) (by kernel_rfl) HSx rfl rfl rfl (fun w' hS => ?hb28) ?_
        case hb28 => first | (go_simp; rfl) | go_simp
        simp only [List.setIfInBounds_toArray, List.set_cons_zero, List.set_cons_succ]
        refine lx_rd 9 ?vb29 (by kernel_rfl) (fun _ _ d _ _ h => by cases d <;> exact h) (by kernel_rfl) HSx rfl rfl rfl (fun w' hS => ?hb29) ?_
        case hb29 => first | (go_simp; rfl) | go_simp
        simp only [List.setIfInBounds_toArray, List.set_cons_zero, List.set_cons_succ]
        refine lx_rd 10 ?vb210 (by kernel_rfl) (fun _ _ d _ _ h => by cases d <;> exact h) (by kernel_rfl) HSx rfl rfl rfl (fun w' hS => ?hb210) ?_
        case hb210 => first | (go_simp; rfl) | go_simp
        simp only [List.setIfInBounds_toArray, List.set_cons_zero, List.set_cons_succ]
        refine lx_nil (by kernel_rfl) ?_
        go_wp2_with (go_at_call 137; refine (hSm _ HW).mono ?_; rintro e w3 ⟨rfl, h3⟩; replace h3 := h3.symm; subst h3)
        go_ret2
        refine ⟨⟨some ⟨b, o8, none⟩, c - 8, ?_, ?_⟩, HW⟩
        · rw [hTl]; rfl
        · rw [hTl]; exact Hr4.out
      · rw [if_neg hCS]
        have hne : ((C : Int) == (S : Int)) = false := by rw [beq_eq_false_iff_ne]; omega
        go_enter Tryz.func154, Tryz.ntmps154
        go_upto_region 3 with fail
        refine wp_region_lx (fun w' => w' = w.drew) [] 11 (by kernel_rfl) (by kernel_rfl) ?_
        have HSx : w.drew = w.drew := rfl
        refine lx_rd 0 ?va30 (by kernel_rfl) (fun _ _ d _ _ h => by cases d <;> exact h) (by kernel_rfl) HSx rfl rfl rfl (fun w' hS => ?ha30) ?_
        case ha30 => first | (go_simp; rfl) | go_simp
        simp only [List.setIfInBounds_toArray, List.set_cons_zero, List.set_cons_succ]
        refine lx_rd 1 (.slice (some ⟨b, off, none⟩) 4 c) (by kernel_rfl) (fun _ _ d _ _ h => by cases d <;> exact h) (by kernel_rfl) HSx rfl rfl rfl (fun w' hS => ?ha31) ?_
        case ha31 => first | (go_simp; rfl) | go_simp
        simp only [List.setIfInBounds_toArray, List.set_cons_zero, List.set_cons_succ]
        refine lx_rd 3 ?va33 (by kernel_rfl) (fun _ _ d _ _ h => by cases d <;> exact h) (by kernel_rfl) HSx rfl rfl rfl (fun w' hS => ?ha33) ?_
        case ha33 => first | (go_simp; rfl) | go_simp
        simp only [List.setIfInBounds_toArray, List.set_cons_zero, List.set_cons_succ]
        refine lx_rd 4 (.slice (some ⟨b, off + 4, none⟩) 4 (c - 4)) (by kernel_rfl) (fun _ _ d _ _ h => by cases d <;> exact h) (by kernel_rfl) HSx rfl rfl rfl (fun w' hS => ?ha34) ?_
        case ha34 => first | (go_simp; rfl) | go_simp
        simp only [List.setIfInBounds_toArray, List.set_cons_zero, List.set_cons_succ]
        refine lx_rd 6 ?va36 (by kernel_rfl) (fun _ _ d _ _ h => by cases d <;> exact h) (by kernel_rfl) HSx rfl rfl rfl (fun w' hS => ?ha36) ?_
        case ha36 => first | (go_simp; rfl) | go_simp
        simp only [List.setIfInBounds_toArray, List.set_cons_zero, List.set_cons_succ]
        refine lx_rd 7 (.slice (some ⟨b, o8, none⟩) (n - 8) (c - 8)) (by kernel_rfl) (fun _ _ d _ _ h => by cases d <;> exact h) (by kernel_rfl) HSx rfl rfl rfl (fun w' hS => ?ha37) ?_
        case ha37 => first | (go_simp; rfl) | go_simp
        simp only [List.setIfInBounds_toArray, List.set_cons_zero, List.set_cons_succ]
        refine lx_one 2 (by kernel_rfl) (stepT_call 130 ?a2x3 rfl rfl rfl ?r2x3 ?_)
        case r2x3 => first | (go_simp; rfl) | go_simp
        refine (hn1 _ HW).mono ?_
        rintro e w1 ⟨rfl, h1w⟩
        replace h1w := h1w.symm
        subst h1w
        refine ⟨_, rfl, fun _ => rfl, ?_⟩
        simp only [List.setIfInBounds_toArray, List.set_cons_zero, List.set_cons_succ]
        refine lx_one 5 (by kernel_rfl) (stepT_call 130 ?a5x3 rfl rfl rfl ?r5x3 ?_)
        case r5x3 => first | (go_simp; rfl) | go_simp
        refine (hn2 _ HW).mono ?_
        rintro e w1 ⟨rfl, h1w⟩
        replace h1w := h1w.symm
        subst h1w
        refine ⟨_, rfl, fun _ => rfl, ?_⟩
        simp only [List.setIfInBounds_toArray, List.set_cons_zero, List.set_cons_succ]
        refine lx_rd 8 ?vb38 (by kernel_rfl) (fun _ _ d _ _ h => by cases d <;> exact h) (by kernel_rfl) HSx rfl rfl rfl (fun w' hS => ?hb38) ?_
        case hb38 => first | (go_simp; rfl) | go_simp
        simp only [List.setIfInBounds_toArray, List.set_cons_zero, List.set_cons_succ]
        refine lx_rd 9 ?vb39 (by kernel_rfl) (fun _ _ d _ _ h => by cases d <;> exact h) (by kernel_rfl) HSx rfl rfl rfl (fun w' hS => ?hb39) ?_
        case hb39 => first | (go_simp; rfl) | go_simp
        simp only [List.setIfInBounds_toArray, List.set_cons_zero, List.set_cons_succ]
        refine lx_rd 10 ?vb310 (by kernel_rfl) (fun _ _ d _ _ h => by cases d <;> exact h) (by kernel_rfl) HSx rfl rfl rfl (fun w' hS => ?hb310) ?_
        case hb310 => first | (go_simp; rfl) | go_simp
        simp only [List.setIfInBounds_toArray, List.set_cons_zero, List.set_cons_succ]
        refine lx_nil (by kernel_rfl) ?_
        go_wp2_with (go_at_call 137; refine (hSm _ HW).mono ?_; rintro e w3 ⟨rfl, h3⟩; replace h3 := h3.symm; subst h3)
        go_ret2
        exact ⟨⟨_, rfl⟩, HW⟩

end Go.Proofs.YtikkieaokfailaaGreatDoor
