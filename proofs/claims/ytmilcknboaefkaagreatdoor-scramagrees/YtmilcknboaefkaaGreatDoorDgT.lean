/- The document's Xor and Hmac. -/
import Derived.Test.YtmilcknboaefkaaGreatDoorDgR
import Derived.Test.YtmilcknboaefkaaGreatDoorDgX
import Derived.Test.YtmilcknboaefkaaGreatDoorDgN
set_option maxRecDepth 100000
namespace Go.Proofs.YtmilcknboaefkaaGreatDoor
open Go.RowKit

theorem runB_head (B T hs : List Int) (hB : B.length = 64) : ∀ k, runB (B ++ T) hs (k + 1) = runB T (mix hs B) k
  | 0 => by
    show mix hs (((B ++ T).drop (64 * 0)).take 64) = mix hs B
    rw [Nat.mul_zero, List.drop_zero, ← hB, List.take_left]
  | k + 1 => by
    show mix (runB (B ++ T) hs (k + 1)) (((B ++ T).drop (64 * (k + 1))).take 64) = mix (runB T (mix hs B) k) ((T.drop (64 * k)).take 64)
    rw [runB_head B T hs hB k, List.drop_append, List.drop_eq_nil_of_le (by omega), List.nil_append, show 64 * (k + 1) - B.length = 64 * k from by omega]
theorem sha_block (B Y : List Int) (hB : B.length = 64) : sha (B ++ Y) = shaB 64 (mix h0s B) Y := by
  have e : padT 0 (B ++ Y) = B ++ padT 64 Y := by
    unfold padT
    rw [List.length_append, hB, show zn (64 + Y.length) = zn Y.length from by unfold zn; rw [Nat.add_mod_left], Nat.zero_add, List.append_assoc]
  unfold sha shaB
  rw [e, List.length_append, hB, show (64 + (padT 64 Y).length) / 64 = (padT 64 Y).length / 64 + 1 from by omega, runB_head B _ h0s hB]
theorem pb_get (xs : List Int) (p : Int) : ∀ k i, i < xs.length → (pb xs p k).getD i 0 = if i < k then bits .xor .u8 (xs.getD i 0) p else xs.getD i 0
  | 0, i, _ => by simp [pb]
  | k + 1, i, h => by
    have hl := pb_len xs p k
    unfold pb
    by_cases e : k = i
    · subst e
      have h1 := pb_get xs p k k h
      rw [if_neg (by omega)] at h1
      rw [h1, if_pos (by omega)]
      simp [List.getD, show k < (pb xs p k).length by omega]
    · have h1 := pb_get xs p k i h
      have h2 : ((pb xs p k).set k (bits .xor .u8 ((pb xs p k).getD k 0) p)).getD i 0 = (pb xs p k).getD i 0 := by simp [List.getD, e]
      rw [h2, h1]
      by_cases hik : i < k
      · rw [if_pos hik, if_pos (by omega)]
      · rw [if_neg hik, if_neg (by omega)]
theorem kroom_eq (y : List Int) (h : y.length ≤ 64) : ov (List.replicate 64 0) y = y ++ List.replicate (64 - y.length) 0 := by
  unfold ov
  rw [List.length_replicate, List.take_of_length_le h, List.drop_replicate]

/-- An append to one own list leaves another. -/
theorem wp_appD {w : World} {ops : Array Oper} {rest : List Oper} {o : Oper} {a : Act} {Q : Exit → Act → World → Prop} (hgd : o.guard = none) (s x : Operand)
    (ho : o.op = .call { callee := .builtin .append, args := #[s, x], argTypes := #[22, 22] })
    (base : Nat) (v : Value) (n : Nat) (xs : List Int) (hs : a.eval s = v) (hown : w.ownsRow base 5 1 v n (bc xs))
    (ao : Option Addr) (m c : Nat) (ys : List Int) (hx : a.eval x = .slice ao m c) (hr : Rd w ao m c ys) (hb : n + m ≤ 1000000000) (hbase : base ≤ w.heap.size)
    (u : Value) (nu : Nat) (us : List Int) (hu : w.ownsRow base 5 1 u nu (bc us)) (hd : u.ownBlock = none ∨ u.ownBlock ≠ v.ownBlock)
    (h : ∀ v' w', w'.ownsRow base 5 1 v' (n + m) (bc (xs ++ ys)) → w'.ownsRow base 5 1 u nu (bc us) → (u.ownBlock = none ∨ u.ownBlock ≠ v'.ownBlock) → Below base w w' → wpList Tryz.prog ops Q rest (a.put o.dst v') w') : wpList Tryz.prog ops Q (o :: rest) a w := by
  refine wp_appK hgd s x ho base v n xs hs hown ao m c ys hx hr hb hbase ?_
  intro v' w' h1 h2 h3
  refine h v' w' h1 (hu.kept h2 hd) ?_ ((Below.refl _ _).grown h2 hbase (fun k hk => (hown.lt k hk).1))
  rcases hd with hd | hd
  · exact .inl hd
  · rcases h3 with h3 | h3
    · rw [h3]; exact .inr hd
    · cases hub : u.ownBlock with
      | none => exact .inl rfl
      | some k =>
        right
        rw [h3]
        intro e
        have := (hu.lt k hub).2
        injection e with e
        omega

set_option maxRecDepth 100000 in
set_option maxHeartbeats 800000 in
theorem refXor_any (xs ys : List Int) (w : World) (ha : xs.length = 32) (hb' : ys.length = 32) :
    Calls Tryz.prog 40 #[.agg (ic .u8 xs).toArray, .agg (ic .u8 ys).toArray] w fun e w' => e = .returned (.agg (ic .u8 (xb xs ys 32)).toArray) ∧ Below w.heap.size w w' := by
  go_enter Tryz.func40, Tryz.ntmps40
  go_wp2_with (first
    | (refine wp_box_ar rfl 27 (.tmp 0) rfl .u8 xs rfl ?_; intro g1 w1 A1 hg1 hb1)
    | (refine wp_box_ar rfl 27 (.tmp 1) rfl .u8 ys rfl ?_; intro g2 w2 A2 hg2 hb2)
    | (refine wp_alloc_ar rfl 27 rfl .u8 (List.replicate 32 0) 32 Tryz.z23 ?_; intro g3 w3 A3 hg3 hb3))
  have h12 : g1 ≠ g2 := by have := A1.lt; omega
  have h13 : g1 ≠ g3 := by have := A1.lt; have := hb2.size; omega
  have hg3' : w.heap.size ≤ g3 := by have := hb1.size; have := hb2.size; omega
  have B1 := (A1.below hb2 A1.lt).below hb3 (Nat.lt_of_lt_of_le A1.lt hb2.size)
  have B2 := A2.below hb3 A2.lt
  have hb := (hb1.trans (hb2.mono hb1.size)).trans (hb3.mono (Nat.le_trans hb1.size hb2.size))
  clear A1 hb1 hb2 hb3 hg2 hg3 A2
  go_loopw [5] (fun i wr => ∃ k : Nat, k ≤ 32 ∧ i = .int .i64 k ∧ Ar wr g1 27 .u8 (xb xs ys k) ∧ Ar wr g2 27 .u8 ys ∧ Ar wr g3 27 .u8 (List.replicate 32 0) ∧ Below w.heap.size w wr) (fun i _ => 32 - (intOf i).toNat)
  case atStart => exact ⟨0, by omega, rfl, B1, B2, A3, hb⟩
  case round =>
    clear B1 B2 A3 hb
    obtain ⟨k, hk, rfl, A1, A2, A3, hbk⟩ := hrel
    have HB : Hid (Below w.heap.size w wr) := hbk
    clear hbk
    by_cases hlt : k < 32
    · have hcl : (k : Int) < 32 := by omega
      have A1' : Ar wr.drew g1 27 .u8 (xb xs ys k) := A1
      have A2' : Ar wr.drew g2 27 .u8 ys := A2
      have A3' : Ar wr.drew g3 27 .u8 (List.replicate 32 0) := A3
      have HB' : Hid (Below w.heap.size w wr.drew) := HB.out.drew
      have c1 := A1'.cell (j := k) (by rw [xb_len]; omega)
      have c2 := A2'.cell (j := k) (by omega)
      have hf := A1'.fz k
      obtain ⟨x, HX⟩ : ∃ x, Hid ((xb xs ys k).getD k 0 = x) := ⟨_, rfl⟩
      obtain ⟨y, HY⟩ : ∃ x, Hid (ys.getD k 0 = x) := ⟨_, rfl⟩
      rw [HX.out] at c1
      rw [HY.out] at c2
      clear ha hb' A1 A2 A3 HB
      go_wp2_with fail
      refine wp_region_lx (fun w' => w' = wr.drew) [9] 10 (by kernel_rfl) (by kernel_rfl) ?_
      obtain ⟨W, HW⟩ : ∃ W, Hid (wr.drew = W) := ⟨_, rfl⟩
      rw [HW.out] at A1' A2' A3' HB' c1 c2 hf ⊢
      have HS0 : W = W := rfl
      refine lx_rd 0 ?vA0 (by kernel_rfl) (fun _ _ d _ _ h => by cases d <;> exact h) (by kernel_rfl) HS0 rfl rfl rfl (fun w' hS => ?hA0) ?_
      case hA0 => first | (go_simp; rfl) | (go_simp; done) | (go_simp; exact idx_ok (by omega) (by omega)) | (go_simp; exact wi64' (by omega) (by omega) (by omega)) | (go_simp; intro hh; exfalso; omega)
      simp only [List.setIfInBounds_toArray, List.set_cons_zero, List.set_cons_succ]
      refine lx_rd 1 ?vA1 (by kernel_rfl) (fun _ _ d _ _ h => by cases d <;> exact h) (by kernel_rfl) HS0 rfl rfl rfl (fun w' hS => ?hA1) ?_
      case hA1 => first | (go_simp; rfl) | (go_simp; done) | (go_simp; exact idx_ok (by omega) (by omega)) | (go_simp; exact wi64' (by omega) (by omega) (by omega)) | (go_simp; intro hh; exfalso; omega)
      simp only [List.setIfInBounds_toArray, List.set_cons_zero, List.set_cons_succ]
      refine lx_rd 2 (.pointer (some ⟨g1, k, none⟩)) (by kernel_rfl) (fun _ _ d _ _ h => by cases d <;> exact h) (by kernel_rfl) HS0 rfl rfl rfl (fun w' hS => ?hA2) ?_
      case hA2 => first | (go_simp; rfl) | (go_simp; done) | (go_simp; exact idx_ok (by omega) (by omega)) | (go_simp; exact wi64' (by omega) (by omega) (by omega)) | (go_simp; intro hh; exfalso; omega)
      simp only [List.setIfInBounds_toArray, List.set_cons_zero, List.set_cons_succ]
      refine lx_rd 3 (.int .u8 x) (by kernel_rfl) (fun _ _ d _ _ h => by cases d <;> exact h) (by kernel_rfl) HS0 rfl rfl rfl (fun w' hS => ?hA3) ?_
      case hA3 => subst hS; first | (go_simp; rfl) | (go_simp; done) | (go_simp; exact idx_ok (by omega) (by omega)) | (go_simp; exact wi64' (by omega) (by omega) (by omega)) | (go_simp; intro hh; exfalso; omega)
      simp only [List.setIfInBounds_toArray, List.set_cons_zero, List.set_cons_succ]
      refine lx_rd 4 ?vA4 (by kernel_rfl) (fun _ _ d _ _ h => by cases d <;> exact h) (by kernel_rfl) HS0 rfl rfl rfl (fun w' hS => ?hA4) ?_
      case hA4 => first | (go_simp; rfl) | (go_simp; done) | (go_simp; exact idx_ok (by omega) (by omega)) | (go_simp; exact wi64' (by omega) (by omega) (by omega)) | (go_simp; intro hh; exfalso; omega)
      simp only [List.setIfInBounds_toArray, List.set_cons_zero, List.set_cons_succ]
      refine lx_rd 5 (.pointer (some ⟨g2, k, none⟩)) (by kernel_rfl) (fun _ _ d _ _ h => by cases d <;> exact h) (by kernel_rfl) HS0 rfl rfl rfl (fun w' hS => ?hA5) ?_
      case hA5 => first | (go_simp; rfl) | (go_simp; done) | (go_simp; exact idx_ok (by omega) (by omega)) | (go_simp; exact wi64' (by omega) (by omega) (by omega)) | (go_simp; intro hh; exfalso; omega)
      simp only [List.setIfInBounds_toArray, List.set_cons_zero, List.set_cons_succ]
      refine lx_rd 6 (.int .u8 y) (by kernel_rfl) (fun _ _ d _ _ h => by cases d <;> exact h) (by kernel_rfl) HS0 rfl rfl rfl (fun w' hS => ?hA6) ?_
      case hA6 => subst hS; first | (go_simp; rfl) | (go_simp; done) | (go_simp; exact idx_ok (by omega) (by omega)) | (go_simp; exact wi64' (by omega) (by omega) (by omega)) | (go_simp; intro hh; exfalso; omega)
      simp only [List.setIfInBounds_toArray, List.set_cons_zero, List.set_cons_succ]
      refine lx_rd 7 (.int .u8 (bits .xor .u8 x y)) (by kernel_rfl) (fun _ _ d _ _ h => by cases d <;> exact h) (by kernel_rfl) HS0 rfl rfl rfl (fun w' hS => ?hA7) ?_
      case hA7 => first | (go_simp; rfl) | (go_simp; done) | (go_simp; exact idx_ok (by omega) (by omega)) | (go_simp; exact wi64' (by omega) (by omega) (by omega)) | (go_simp; intro hh; exfalso; omega)
      simp only [List.setIfInBounds_toArray, List.set_cons_zero, List.set_cons_succ]
      refine lx_rd 8 (.pointer (some ⟨g1, k, none⟩)) (by kernel_rfl) (fun _ _ d _ _ h => by cases d <;> exact h) (by kernel_rfl) HS0 rfl rfl rfl (fun w' hS => ?hA8) ?_
      case hA8 => first | (go_simp; rfl) | (go_simp; done) | (go_simp; exact idx_ok (by omega) (by omega)) | (go_simp; exact wi64' (by omega) (by omega) (by omega)) | (go_simp; intro hh; exfalso; omega)
      simp only [List.setIfInBounds_toArray, List.set_cons_zero, List.set_cons_succ]
      refine lx_one 9 (by kernel_rfl) (stepT_store (w' := W.setCell ⟨g1, k, none⟩ (.int .u8 (bits .xor .u8 x y))) rfl rfl rfl ?r9 (fun h => by cases h) ?_)
      case r9 => first | (go_simp; rfl) | go_simp
      refine lx_nil (by kernel_rfl) ?_
      go_wp2_with fail
      refine ⟨⟨k + 1, by omega, by go_num, ?_, A2'.other (fun e => h12 e.symm) _, A3'.other (fun e => h13 e.symm) _, HB'.out.setCell (show w.heap.size ≤ g1 from hg1) _⟩, by simp [intOf]; omega⟩
      have := A1'.set k (bits .xor .u8 x y)
      unfold xb; rw [HX.out, HY.out]; exact this
    · obtain rfl : k = 32 := by omega
      have hcl2 : ¬ ((32 : Nat) : Int) < 32 := by omega
      have hi23 := (size_of Tryz.u23).2
      have h32 : (xb xs ys 32).length = 32 := by rw [xb_len, ha]
      go_wp2_with (first
        | (refine wp_load_ar rfl 27 (.tmp 2) rfl _ rfl 27 .u8 (xb xs ys 32) 5 32 A1 Tryz.u23 h32 ?_)
        | (refine wp_store_ar rfl 27 (.tmp 4) (.tmp 19) rfl _ rfl .u8 (xb xs ys 32) rfl 27 _ A3 (by rw [h32]; rfl) (by rw [h32]; exact hi23) ?_; intro w3 A3' hk3 hs3))
      refine bodyPost_ret (v := .agg (ic .u8 (xb xs ys 32)).toArray) (ar_results rfl _ _ g3 27 .u8 (xb xs ys 32) 5 32 rfl A3' Tryz.u23 h32) rfl ⟨rfl, ?_⟩
      exact HB.out.trans (hk3.below HB.out.size (fun j hj => by omega))

end Go.Proofs.YtmilcknboaefkaaGreatDoor
