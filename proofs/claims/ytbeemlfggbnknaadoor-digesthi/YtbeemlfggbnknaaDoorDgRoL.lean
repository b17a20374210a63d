/- DigestRounds' walk. -/
import Derived.Test.YtbeemlfggbnknaaDoorDgHi
import Derived.Test.YtbeemlfggbnknaaDoorDgQ
namespace Go.Proofs.YtbeemlfggbnknaaDoor
open Go.RowKit

theorem xb_get (xs ys : List Int) : ∀ k i, i < xs.length → (xb xs ys k).getD i 0 = if i < k then bits .xor .u8 (xs.getD i 0) (ys.getD i 0) else xs.getD i 0
  | 0, i, _ => by simp [xb]
  | k + 1, i, h => by
    have hl := xb_len xs ys k
    unfold xb
    by_cases e : k = i
    · subst e
      have h1 := xb_get xs ys k k h
      rw [if_neg (by omega)] at h1
      rw [h1, if_pos (by omega)]
      simp [List.getD, show k < (xb xs ys k).length by omega]
    · have h1 := xb_get xs ys k i h
      have h2 : ((xb xs ys k).set k (bits .xor .u8 ((xb xs ys k).getD k 0) (ys.getD k 0))).getD i 0 = (xb xs ys k).getD i 0 := by simp [List.getD, e]
      rw [h2, h1]
      by_cases hik : i < k
      · rw [if_pos hik, if_pos (by omega)]
      · rw [if_neg hik, if_neg (by omega)]
theorem ext32 {xs ys : List Int} (hx : xs.length = 32) (hy : ys.length = 32) (h : ∀ i, i < 32 → xs.getD i 0 = ys.getD i 0) : xs = ys := by
  refine List.ext_getElem (by omega) fun i h1 h2 => ?_
  have := h i (by omega)
  simpa [List.getD, h1, h2] using this
theorem xor_self8 (a : Int) (h : 0 ≤ a ∧ a ≤ 255) : bits .xor .u8 a a = 0 := by rw [u8_xor a a h.1 (by omega) h.1 (by omega), Nat.xor_self]; rfl
theorem xor_back8 (a b : Int) (ha : 0 ≤ a ∧ a ≤ 255) (hb : 0 ≤ b ∧ b ≤ 255) : bits .xor .u8 a (bits .xor .u8 a b) = b := by
  have h2 := bits8 .xor a b
  have e : (bits .xor .u8 a b).toNat = a.toNat ^^^ b.toNat := by rw [u8_xor a b ha.1 (by omega) hb.1 (by omega)]; simp
  rw [u8_xor a _ ha.1 (by omega) h2.1 (by omega), e, ← Nat.xor_assoc, Nat.xor_self, Nat.zero_xor]
  omega
theorem xb_bd {xs ys : List Int} (h : Bd xs) : ∀ k, Bd (xb xs ys k)
  | 0 => h
  | k + 1 => by unfold xb; exact (xb_bd h k).set _ (bits8 _ _ _).1 (bits8 _ _ _).2
theorem sumK_bd (ks ss : List Int) : ∀ k, Bd (sumK ks ss k)
  | 0 => uK_bd _ _ _
  | k + 1 => by unfold sumK; exact xb_bd (sumK_bd ks ss k) 32
theorem rounds_xor (ks ss : List Int) (k : Nat) : xb (sumK ks ss k) (sumK ks ss (k + 1)) 32 = uK ks ss (k + 1) := by
  have h1 := sumK_len ks ss k
  refine ext32 (by rw [xb_len]; exact h1) (uK_len _ _ _) fun i hi => ?_
  rw [xb_get _ _ 32 i (by omega), if_pos hi]
  show bits .xor .u8 _ ((xb (sumK ks ss k) (uK ks ss (k + 1)) 32).getD i 0) = _
  rw [xb_get _ _ 32 i (by omega), if_pos hi]
  exact xor_back8 _ _ ((sumK_bd ks ss k).get i) ((uK_bd ks ss (k + 1)).get i)
theorem xor_same (xs : List Int) (h : xs.length = 32) (hb : Bd xs) : xb xs xs 32 = List.replicate 32 0 := by
  refine ext32 (by rw [xb_len]; exact h) (by simp) fun i hi => ?_
  rw [xb_get _ _ 32 i (by omega), if_pos hi, xor_self8 _ (hb.get i)]
  rw [List.getD, List.getElem?_replicate, if_pos hi]; rfl
theorem exec_build0 {P : Program} {o : Oper} {ρ : Operand → Value} {w : World} (t : TypeId) (ho : o.op = .build t #[]) (cells : Array Value) (hb : P.built t [] = some cells) :
    (execOp ρ o).run P w = .ok (.value (.agg cells)) w := by
  unfold execOp
  have hr := run_build w t #[] cells hb
  simp only [ho, List.map_toArray, List.map_nil, Sem.run_bind, hr, Result.andThen_ok, Sem.run_pure]
theorem tm30 (z : Int) : ∃ k : Nat, wrap64 ((wrap64 (z.tmod 30 + 30)).tmod 30 + 1) = ((k + 1 : Nat) : Int) ∧ k < 30 := by
  have h1 : z.tmod 30 < 30 := Int.tmod_lt_of_pos z (by omega)
  have h2 : -30 < z.tmod 30 := by
    have : (-z).tmod 30 < 30 := Int.tmod_lt_of_pos (-z) (by omega)
    rw [Int.neg_tmod] at this; omega
  have h3 : wrap64 (z.tmod 30 + 30) = z.tmod 30 + 30 := by unfold wrap64; omega
  rw [h3, Int.tmod_eq_emod_of_nonneg (by omega)]
  have h5 := Int.emod_lt_of_pos (z.tmod 30 + 30) (show (0 : Int) < 30 by omega)
  have h4 := Int.emod_nonneg (z.tmod 30 + 30) (show (30 : Int) ≠ 0 by omega)
  refine ⟨((z.tmod 30 + 30) % 30).toNat, ?_, by omega⟩
  unfold wrap64; omega
/-- Bytes of a world stand, whatever newer than they are is grown. -/
theorem Rd.carry2 {w w1 w2 : World} {a : Option Addr} {n c : Nat} {xs : List Int} (_ : Rd w1 a n c xs) (h : Rd w a n c xs) (hb : Below w.heap.size w w1) (hb2 : Below w.heap.size w1 w2) : Rd w2 a n c xs := h.carry (Nat.le_refl _) (hb.trans hb2)
theorem twinR (a : Option Addr) (n c : Nat) (xs : List Int) (most : Nat) (w : World) (hR : Rd w a n c xs) (hm : most ≤ 100000) :
    Calls Tryd.prog 15 #[.slice a n c, .int .i64 most] w fun e w' => ∃ a' n' c', e = .returned (.slice a' n' c') ∧ n' ≤ most ∧ Rd w' a' n' c' (xs.take most) ∧ Below w.heap.size w w' := by
  refine (twin_any a n c xs most w hR hm).mono ?_
  rintro e w1 ⟨v1, rfl, ho1, hb1⟩
  obtain ⟨a1, c1, rfl, hr1⟩ := Rd.ofOwn ho1 (hR.bytes.take most)
  exact ⟨a1, _, c1, rfl, by rw [List.length_take]; omega, hr1, hb1⟩

set_option maxRecDepth 100000 in
set_option maxHeartbeats 3200000 in
theorem digestRounds_any (a : Option Addr) (n c : Nat) (xs : List Int) (a' : Option Addr) (n' c' : Nat) (ys : List Int) (z : Int) (w : World) (hR : Rd w a n c xs) (hR' : Rd w a' n' c' ys) (hK : Kt w) :
    Calls Tryd.prog 6 #[.slice a n c, .slice a' n' c', .int .i64 z] w fun e w' => e = .returned (.bool true) ∧ Below w.heap.size w w' := by
  have hi23 := (size_of Tryd.u23).2
  have hz23 : Tryd.prog.built 23 [] = some (ic .u8 (List.replicate 32 0)).toArray := by kernel_rfl
  obtain ⟨X, HX⟩ : ∃ X, Hid (xs.take 1000 = X) := ⟨_, rfl⟩
  obtain ⟨S, HS⟩ : ∃ S, Hid (ys.take 100 = S) := ⟨_, rfl⟩
  have HTX : Hid (X.take 1000 = X) := by show _ = _; rw [← HX.out, List.take_take, Nat.min_self]
  have HTS : Hid (S.take 1000 = S) := by show _ = _; rw [← HS.out, List.take_take]; congr 1
  obtain ⟨m0, hm0, hm30⟩ := tm30 z
  obtain ⟨m, HM⟩ : ∃ m, Hid (m0 + 1 = m) := ⟨_, rfl⟩
  rw [HM.out] at hm0
  have hm1 : 1 ≤ m := by rw [← HM.out]; omega
  have hm2 : m ≤ 30 := by rw [← HM.out]; omega
  go_enter Tryd.func6, Tryd.ntmps6
  go_wp2_with fail
  refine (fewR a n c xs _ hR).mono ?_; rw [HX.out]; rintro e w1 ⟨a8, n8, c8, rfl, hn8, hX1, hb1⟩
  go_wp2_with fail
  refine (twinR a' n' c' ys 100 _ (hR'.carry (Nat.le_refl _) hb1) (by omega)).mono ?_; rw [HS.out]; rintro e w2 ⟨a9, n9, c9, rfl, hn9, hS2, hb2⟩
  have hX2 := hX1.carry (Nat.le_refl _) hb2
  have e2 := hb1.trans (hb2.mono hb1.size)
  have hK2 := hK.below (Nat.le_refl _) e2
  clear hX1 hb1 hb2
  go_wp2_with fail
  refine (fewR a8 n8 c8 X _ hX2).mono ?_; rw [HTX.out]; rintro e w3 ⟨a3, n3, c3, rfl, hn3, hX3, hb3⟩
  go_wp2_with fail
  refine (fewR a9 n9 c9 S _ (hS2.carry (Nat.le_refl _) hb3)).mono ?_; rw [HTS.out]; rintro e w4 ⟨a4, n4, c4, rfl, hn4, hS4, hb4⟩
  go_wp2_with fail
  refine (hi_any a3 n3 c3 X a4 n4 c4 S m _ (hX3.carry (Nat.le_refl _) hb4) (by omega) hS4 (by omega) hm1 (by omega) ((hK2.below (Nat.le_refl _) hb3).below (Nat.le_refl _) hb4)).mono ?_; rintro e w5 ⟨rfl, hb5⟩
  have b5 := (hb3.trans (hb4.mono hb3.size))
  have b5' := b5.trans (hb5.mono b5.size)
  clear b5 hb3 hb4 hb5 hX3 hS4
  have hsla := sumK_len X S (m - 1)
  have hslb := sumK_len X S m
  have t1 : True := trivial
  go_wp2_with (first
    | (clear t1; refine wp_alloc_ar rfl 23 rfl .u8 (List.replicate 32 0) 32 Tryd.z23 ?_; intro ga w6 A6 hga hb6)
    | (refine wp_store_ar rfl 23 (.tmp 10) (.tmp 32) rfl ga rfl .u8 (sumK X S (m - 1)) rfl 23 _ A6 (by rw [hsla]; rfl) (by rw [hsla]; exact hi23) ?_; intro w7 A7 hk7 hs7; clear hs7))
  have b6 := b5'.trans (hb6.mono b5'.size)
  have b7 : Below w2.heap.size w2 w7 := b6.trans (hk7.below b6.size (fun q hq => by have := b5'.size; omega))
  have hX7 := hX2.carry (Nat.le_refl _) b7
  have hS7 := hS2.carry (Nat.le_refl _) b7
  have hK7 := hK2.below (Nat.le_refl _) b7
  have e7 := e2.trans (b7.mono e2.size)
  have hgaw : w.heap.size ≤ ga := by have := e2.size; have := b5'.size; omega
  clear b6 b7 b5' hb6 hk7 A6 hX2 hS2 hK2 e2 hga
  refine (fewR a8 n8 c8 X _ hX7).mono ?_; rw [HTX.out]; rintro e w8 ⟨a3, n3, c3, rfl, hn3, hX3, hb3⟩
  go_wp2_with fail
  refine (fewR a9 n9 c9 S _ (hS7.carry (Nat.le_refl _) hb3)).mono ?_; rw [HTS.out]; rintro e w9 ⟨a4, n4, c4, rfl, hn4, hS4, hb4⟩
  go_wp2_with fail
  have HH := hi_any a3 n3 c3 X a4 n4 c4 S (m + 1) _ (hX3.carry (Nat.le_refl _) hb4) (by omega) hS4 (by omega) (by omega) (by omega) ((hK7.below (Nat.le_refl _) hb3).below (Nat.le_refl _) hb4)
  rw [Nat.add_sub_cancel, Int.natCast_add] at HH
  refine HH.mono ?_; rintro e w10 ⟨rfl, hb5⟩
  have b5 := (hb3.trans (hb4.mono hb3.size))
  have b5' := b5.trans (hb5.mono b5.size)
  clear HH b5 hb3 hb4 hb5 hX3 hS4
  have t2 : True := trivial
  go_wp2_with (first
    | (clear t2; refine wp_alloc_ar rfl 23 rfl .u8 (List.replicate 32 0) 32 Tryd.z23 ?_; intro gb w11 A11 hgb hb11)
    | (refine wp_store_ar rfl 23 (.tmp 12) (.tmp 42) rfl gb rfl .u8 (sumK X S m) rfl 23 _ A11 (by rw [hslb]; rfl) (by rw [hslb]; exact hi23) ?_; intro w12 A12 hk12 hs12; clear hs12))
  have b6 := b5'.trans (hb11.mono b5'.size)
  have b7 : Below w7.heap.size w7 w12 := b6.trans (hk12.below b6.size (fun q hq => by have := b5'.size; omega))
  have A7' := A7.below b7 A7.lt
  have hX12 := hX7.carry (Nat.le_refl _) b7
  have hS12 := hS7.carry (Nat.le_refl _) b7
  have hK12 := hK7.below (Nat.le_refl _) b7
  have e12 := e7.trans (b7.mono e7.size)
  clear b6 b7 b5' hb11 hk12 A11 A7 hX7 hS7 hK7 e7 hgb
  refine (fewR a8 n8 c8 X _ hX12).mono ?_; rw [HTX.out]; rintro e w13 ⟨a3, n3, c3, rfl, hn3, hX3, hb3⟩
  go_wp2_with fail
  refine (fewN a9 n9 c9 S _ (hS12.carry (Nat.le_refl _) hb3)).mono ?_; rw [HTS.out]; rintro e w14 ⟨a4, n4, c4, rfl, hn4, hS4, hN4, hb4⟩
  have ho4 := hN4.1
  have hl4 := hS4.len
  rw [hl4] at ho4
  have hu0 := uK_len X S 0
  have e13 := e12.trans (hb3.mono e12.size)
  have e14 := e13.trans (hb4.mono e13.size)
  have hK14 := hK12.below (Nat.le_refl _) (hb3.trans (hb4.mono hb3.size))
  go_wp2_with (first
    | (at_builtin; refine wp_appK rfl (.tmp 47) (.tmp 48) rfl w13.heap.size _ n4 S rfl (ho4.alloc _) _ 4 4 [0, 0, 0, 1] rfl (rd_0001 w14) (by omega) (by rw [World.size_alloc]; have := hb4.size; omega) ?_; intro v15 w15 ho15 hg15 _; obtain ⟨a15, c15, rfl, hr15⟩ := Rd.ofOwn ho15 (hS4.bytes.append (rd_0001 w14).bytes); have hb15 : Below w13.heap.size w14 w15 := below_step (Below.refl _ _) hb4.size ho4 hg15)
    | (go_at_call 13; refine (hmac_any a3 n3 c3 X a15 _ c15 (S ++ [0, 0, 0, 1]) _ ((hX3.carry (Nat.le_refl _) hb4).carry2 hX3 hb4 hb15) (by omega) hr15 (by omega) (hK12.below (Nat.le_refl _) (hb3.trans ((hb4.trans hb15).mono hb3.size)))).mono ?_; rintro e w16 ⟨rfl, hb16⟩)
    | (refine wp_alloc_ar rfl 23 rfl .u8 (List.replicate 32 0) 32 Tryd.z23 ?_; intro gu w17 A17 hgu hb17)
    | (refine wp_store_ar rfl 23 (.tmp 14) (.tmp 50) rfl gu rfl .u8 (uK X S 0) rfl 23 _ A17 (by rw [hu0]; rfl) (by rw [hu0]; exact hi23) ?_; intro w18 A18 hk18 hs18; clear hs18))
  have c16 := hb3.trans ((hb4.trans hb15).mono hb3.size)
  have b16 := c16.trans (hb16.mono c16.size)
  have Aa0 := A7'.below b16 A7'.lt
  have Ab0 := A12.below b16 A12.lt
  have hX16 := hX12.carry (Nat.le_refl _) b16
  have hK16 := hK12.below (Nat.le_refl _) b16
  have e16 := e12.trans (b16.mono e12.size)
  have b18 : Below w16.heap.size w16 w18 := hb17.trans (hk18.below hb17.size (fun q hq => by omega))
  have HGU : Hid (w16.heap.size ≤ gu) := hgu
  have nsz : w12.heap.size ≤ w16.heap.size := b16.size
  have hsm := hslb
  clear c16 b16 A7' A12 hX12 hK12 e12 hb17 hk18 A17 hb16 hb15 hb4 hb3 ho15 hg15 hr15 ho4 hN4 hS4 hX3 hS12 e13 e14 hK14 hl4 hR hR' hK
  go_loopw [15] (fun i wr => ∃ k : Nat, k ≤ m ∧ i = .int .i64 k ∧ Ar wr gu 23 .u8 (uK X S k) ∧ Below w16.heap.size w16 wr) (fun i _ => m - (intOf i).toNat)
  case atStart => exact ⟨0, by omega, rfl, A18, b18⟩
  case round =>
    clear A18 b18
    obtain ⟨k, hk, rfl, Au0, bk⟩ := hrel
    have hul := uK_len X S k
    by_cases hlt : k < m
    · have hlz : (k : Int) < (m : Int) := by omega
      have hul1 := uK_len X S (k + 1)
      have HBK : Hid (Below w16.heap.size w16 wr.drew) := bk.drew
      have hXr : Rd wr.drew a8 n8 c8 X := rd_drewN (hX16.carry (Nat.le_refl _) bk) 1
      have hKr : Kt wr.drew := (hK16.below (Nat.le_refl _) bk).drewN 1
      have Aur : Ar wr.drew gu 23 .u8 (uK X S k) := Au0
      have hUr : Rd wr.drew (some ⟨gu, 0, none⟩) 32 32 (uK X S k) := by have := rd_row Aur (uK_bd X S k) (by rw [hul]; unfold maxLen; omega); rw [hul] at this; exact this
      clear bk Au0
      go_wp2_with fail
      refine wp_region_facts [0, 1, 2, 3, 4, 5] (Gl [(fEq (.slice a8 n8 c8)), (fRd X 1000), fEmp, (fEq (.slice (some ⟨gu, 0, none⟩) 32 32)), (fRd (uK X S k) 1000), (fEq (.agg (ic .u8 (uK X S (k + 1))).toArray))]) 7 1 (by kernel_rfl) (by kernel_rfl) rfl (by kernel_rfl) (lasts_list ?plst) ?pob ?_
      case plst =>
        intro g hg
        simp only [List.mem_cons, List.not_mem_nil, or_false] at hg
        rcases hg with rfl | rfl | rfl | rfl | rfl | rfl
        · exact lasts_eq _
        · exact lasts_rd _ _
        · exact lasts_emp
        · exact lasts_eq _
        · exact lasts_rd _ _
        · exact lasts_eq _
      case pob =>
        refine (allIn_cons ?p0 (allIn_cons ?p1 (allIn_cons ?p2 (allIn_cons ?p3 (allIn_cons ?p4 (allIn_cons ?p5 allIn_nil))))))
        case p0 =>
          refine ob_val 0 rfl rfl (by simp) (fun tm u h => ⟨?pw0, ?_⟩)
          case pw0 => exact wanted_none rfl
          have s8 : tm.getD 8 undef = .slice a8 n8 c8 := h.same 8 (of_decide_eq_true (by kernel_rfl))
          exact ⟨.slice a8 n8 c8, u, by first | (go_simp; done) | (go_simp; rfl), rfl, Below.refl _ _⟩
        case p1 =>
          refine ob_call 1 rfl rfl (by simp) (fun tm u h => ⟨?pw1, ?_⟩)
          case pw1 => exact wanted_none rfl
          have f0 : tm.getD 56 undef = .slice a8 n8 c8 := h.dep 0 _ _ (by simp) rfl rfl ⟨_, rfl, by kernel_rfl⟩
          refine ⟨10, #[.slice a8 n8 c8], by first | (go_simp; done) | (go_simp; rfl), ?_⟩
          refine (fewR a8 n8 c8 X u (hXr.carry (Nat.le_refl _) h.s)).mono ?_
          rintro e u2 ⟨p, q, s, rfl, hq, hr2, hb2⟩
          rw [HTX.out] at hr2
          exact ⟨_, rfl, ⟨p, q, s, rfl, hq, hr2⟩, hb2⟩
        case p2 =>
          refine ob_val 2 rfl rfl (by simp) (fun tm u h => ⟨?pw2, ?_⟩)
          case pw2 => exact wanted_none rfl
          exact ⟨_, _, exec_emp rfl, ⟨u.heap.size, rfl, World.alloc_heap_new _ _⟩, (Below.refl _ _).alloc (Nat.le_refl _) _⟩
        case p3 =>
          refine ob_val 3 rfl rfl (by simp) (fun tm u h => ⟨?pw3, ?_⟩)
          case pw3 => exact wanted_none rfl
          have s14 : tm.getD 14 undef = .pointer (some ⟨gu, 0, none⟩) := h.same 14 (of_decide_eq_true (by kernel_rfl))
          refine ⟨.slice (some ⟨gu, 0, none⟩) 32 32, u, ?_, rfl, Below.refl _ _⟩
          first | (go_simp; done) | (go_simp; rfl)
        case p4 =>
          refine ob_val 4 rfl rfl (by simp) (fun tm u h => ⟨?pw4, ?_⟩)
          case pw4 => exact wanted_none rfl
          obtain ⟨g2, f2, hg2⟩ : fEmp (tm.getD 58 undef) u := h.dep 2 _ _ (by simp) rfl rfl ⟨_, rfl, by kernel_rfl⟩
          have f3 : tm.getD 59 undef = .slice (some ⟨gu, 0, none⟩) 32 32 := h.dep 3 _ _ (by simp) rfl rfl ⟨_, rfl, by kernel_rfl⟩
          obtain ⟨a4, c4, u2, hrun, hr2, hb2⟩ := run_appE u _ g2 hg2 _ 32 32 (uK X S k) (hUr.carry (Nat.le_refl _) h.s) (by omega)
          exact ⟨_, u2, exec_app rfl f2 f3 hrun, ⟨a4, 32, c4, rfl, by omega, hr2⟩, hb2⟩
        case p5 =>
          refine ob_call 5 rfl rfl (by simp) (fun tm u h => ⟨?pw5, ?_⟩)
          case pw5 => exact wanted_none rfl
          obtain ⟨a1, n1, c1, f1, hn1, hr1⟩ : fRd X 1000 (tm.getD 57 undef) u := h.dep 1 _ _ (by simp) rfl rfl ⟨_, rfl, by kernel_rfl⟩
          obtain ⟨a4, n4, c4, f4, hn4, hr4⟩ : fRd (uK X S k) 1000 (tm.getD 60 undef) u := h.dep 4 _ _ (by simp) rfl rfl ⟨_, rfl, by kernel_rfl⟩
          refine ⟨13, #[.slice a1 n1 c1, .slice a4 n4 c4], by first | (go_simp; done) | (go_simp; rfl), ?_⟩
          refine (hmac_any a1 n1 c1 X a4 n4 c4 (uK X S k) u hr1 (by omega) hr4 (by omega) (hKr.below (Nat.le_refl _) h.s)).mono ?_
          rintro e u2 ⟨rfl, hb2⟩
          exact ⟨_, rfl, rfl, hb2⟩
      intro af wf hAO
      have p61 : af.tmps.getD 61 undef = .agg (ic .u8 (uK X S (k + 1))).toArray := hAO.got 5 _ _ rfl (by simp) rfl rfl
      have hs := hAO.s
      have eF := frame_sets af.tmps [56, 57, 58, 59, 60, 61] _ hAO.sz (fun d hd => hAO.same d (fun hq => hd ((show uDst _ _ = [56, 57, 58, 59, 60, 61] from by kernel_rfl) ▸ hq)))
      simp only [List.foldl_cons, List.foldl_nil, List.setIfInBounds_toArray, List.set_cons_zero, List.set_cons_succ] at eF
      rw [p61] at eF
      generalize af.tmps.getD 56 undef = vF56 at eF
      generalize af.tmps.getD 57 undef = vF57 at eF
      generalize af.tmps.getD 58 undef = vF58 at eF
      generalize af.tmps.getD 59 undef = vF59 at eF
      generalize af.tmps.getD 60 undef = vF60 at eF
      obtain ⟨tm, dfx⟩ := af
      obtain rfl : dfx = [] := hAO.df
      clear hAO p61
      dsimp only at eF
      subst eF
      have Auf := Aur.below hs Aur.lt
      refine lx_one 6 (by kernel_rfl) (stepT_store (w' := wf.setRow gu (ic .u8 (uK X S (k + 1))).toArray) rfl rfl rfl ?rs (fun _ => trivial) ?_)
      case rs => exact exec_store_ar 23 (.tmp 14) (.tmp 61) rfl gu rfl .u8 (uK X S (k + 1)) rfl 23 _ Auf (by rw [hul, hul1]) (by rw [hul1]; exact hi23)
      refine lx_nil (by kernel_rfl) ?_
      have Aun : Ar (wf.setRow gu (ic .u8 (uK X S (k + 1))).toArray) gu 23 .u8 (uK X S (k + 1)) := Auf.row
      have bf := HBK.out.trans (hs.mono HBK.out.size)
      have bn : Below w16.heap.size w16 (wf.setRow gu (ic .u8 (uK X S (k + 1))).toArray) := below_setRow bf HGU.out _
      generalize wf.setRow gu (ic .u8 (uK X S (k + 1))).toArray = wn at Aun bn
      clear Auf bf hs Aur hUr hKr hXr HBK
      go_wp2_with fail
      go_roundw
      case rel => exact ⟨k + 1, by omega, by go_num, Aun, bn⟩
      case measure => simp [intOf]; omega
    · obtain rfl : k = m := by omega
      have hlz : ¬ (k : Int) < (k : Int) := by omega
      have Aa : Ar wr.drew ga 23 .u8 (sumK X S (k - 1)) := Aa0.below bk.drew Aa0.lt
      have Ab : Ar wr.drew gb 23 .u8 (sumK X S k) := Ab0.below bk.drew Ab0.lt
      have Au : Ar wr.drew gu 23 .u8 (uK X S k) := Au0
      have hKr : Kt wr.drew := (hK16.below (Nat.le_refl _) bk).drewN 1
      have HBW : Hid (Below w.heap.size w wr.drew) := (e16.trans (bk.mono e16.size)).drew
      have HE1 : Hid (decide (xb (sumK X S (k - 1)) (sumK X S k) 32 = uK X S k) = true) := by
        show _ = _
        rw [decide_eq_true_eq]
        have := rounds_xor X S (k - 1)
        rwa [Nat.sub_add_cancel hm1] at this
      have HE2 : Hid (decide (xb (sumK X S (k - 1)) (sumK X S (k - 1)) 32 = List.replicate 32 0) = true) := by
        show _ = _
        rw [decide_eq_true_eq]
        exact xor_same _ hsla (sumK_bd X S (k - 1))
      clear bk Au0 Aa0 Ab0 hX16 hK16 e16
      go_wp2_with fail
      refine wp_region_facts [0, 1, 2, 3, 4, 5, 6, 7, 8, 9, 10, 11, 12, 13, 14, 15, 16, 17, 18, 19, 20, 21, 22] (Gl [(fEq (.int .i64 0)), (fEq (.bool true)), (fEq (.bool true)), (fEq (.int .i64 0)), (fEq (.bool true)), (fEq (.bool true)), (fEq (.bool true)), (fEq (.agg (ic .u8 (sumK X S (k - 1))).toArray)), (fEq (.agg (ic .u8 (sumK X S k)).toArray)), (fEq (.agg (ic .u8 (xb (sumK X S (k - 1)) (sumK X S k) 32)).toArray)), (fEq (.agg (ic .u8 (uK X S k)).toArray)), (fEq (.bool true)), (fEq (.bool true)), (fEq (.bool true)), (fEq (.agg (ic .u8 (sumK X S (k - 1))).toArray)), (fEq (.agg (ic .u8 (sumK X S (k - 1))).toArray)), (fEq (.agg (ic .u8 (xb (sumK X S (k - 1)) (sumK X S (k - 1)) 32)).toArray)), (fEq (.agg (ic .u8 (List.replicate 32 0)).toArray)), (fEq (.bool true)), (fEq (.bool true)), (fEq (.bool true)), (fEq (.bool true)), (fEq (.bool true))]) 24 1 (by kernel_rfl) (by kernel_rfl) rfl (by kernel_rfl) (lasts_list ?elst) ?eob ?_
      case elst =>
        intro g hg
        simp only [List.mem_cons, List.not_mem_nil, or_false] at hg
        rcases hg with rfl | rfl | rfl | rfl | rfl | rfl | rfl | rfl | rfl | rfl | rfl | rfl | rfl | rfl | rfl | rfl | rfl | rfl | rfl | rfl | rfl | rfl | rfl
        · exact lasts_eq _
        · exact lasts_eq _
        · exact lasts_eq _
        · exact lasts_eq _
        · exact lasts_eq _
        · exact lasts_eq _
        · exact lasts_eq _
        · exact lasts_eq _
        · exact lasts_eq _
        · exact lasts_eq _
        · exact lasts_eq _
        · exact lasts_eq _
        · exact lasts_eq _
        · exact lasts_eq _
        · exact lasts_eq _
        · exact lasts_eq _
        · exact lasts_eq _
        · exact lasts_eq _
        · exact lasts_eq _
        · exact lasts_eq _
        · exact lasts_eq _
        · exact lasts_eq _
        · exact lasts_eq _
      case eob =>
        refine (allIn_cons ?e0 (allIn_cons ?e1 (allIn_cons ?e2 (allIn_cons ?e3 (allIn_cons ?e4 (allIn_cons ?e5 (allIn_cons ?e6 (allIn_cons ?e7 (allIn_cons ?e8 (allIn_cons ?e9 (allIn_cons ?e10 (allIn_cons ?e11 (allIn_cons ?e12 (allIn_cons ?e13 (allIn_cons ?e14 (allIn_cons ?e15 (allIn_cons ?e16 (allIn_cons ?e17 (allIn_cons ?e18 (allIn_cons ?e19 (allIn_cons ?e20 (allIn_cons ?e21 (allIn_cons ?e22 allIn_nil)))))))))))))))))))))))
        case e0 =>
          refine ob_val 0 rfl rfl (by simp) (fun tm u h => ⟨?ew0, ?_⟩)
          case ew0 => exact wanted_none rfl
          have s11 : tm.getD 11 undef = .int .i64 0 := h.same 11 (of_decide_eq_true (by kernel_rfl))
          exact ⟨.int .i64 0, u, by first | (go_simp; done) | (go_simp; rfl), rfl, Below.refl _ _⟩
        case e1 =>
          refine ob_val 1 rfl rfl (by simp) (fun tm u h => ⟨?ew1, ?_⟩)
          case ew1 => exact wanted_none rfl
          have f0 : tm.getD 62 undef = .int .i64 0 := h.dep 0 _ _ (by simp) rfl rfl ⟨_, rfl, by kernel_rfl⟩
          refine ⟨.bool true, u, ?_, rfl, Below.refl _ _⟩
          first | (go_simp; done) | (go_simp; rfl)
        case e2 =>
          refine ob_val 2 rfl rfl (by simp) (fun tm u h => ⟨?ew2, ?_⟩)
          case ew2 => exact wanted_none rfl
          have f1 : tm.getD 63 undef = .bool true := h.dep 1 _ _ (by simp) rfl rfl ⟨_, rfl, by kernel_rfl⟩
          exact ⟨.bool true, u, by first | (go_simp; done) | (go_simp; rfl), rfl, Below.refl _ _⟩
        case e3 =>
          refine ob_val 3 rfl rfl (by simp) (fun tm u h => ⟨?ew3, ?_⟩)
          case ew3 => exact wanted_of rfl rfl rfl (by rw [h.sz]; simp) (h.dep 2 _ _ (by simp) rfl rfl ⟨_, rfl, by kernel_rfl⟩)
          have s13 : tm.getD 13 undef = .int .i64 0 := h.same 13 (of_decide_eq_true (by kernel_rfl))
          exact ⟨.int .i64 0, u, by first | (go_simp; done) | (go_simp; rfl), rfl, Below.refl _ _⟩
        case e4 =>
          refine ob_val 4 rfl rfl (by simp) (fun tm u h => ⟨?ew4, ?_⟩)
          case ew4 => exact wanted_of rfl rfl rfl (by rw [h.sz]; simp) (h.dep 2 _ _ (by simp) rfl rfl ⟨_, rfl, by kernel_rfl⟩)
          have f3 : tm.getD 65 undef = .int .i64 0 := h.dep 3 _ _ (by simp) rfl rfl ⟨_, rfl, by kernel_rfl⟩
          refine ⟨.bool true, u, ?_, rfl, Below.refl _ _⟩
          first | (go_simp; done) | (go_simp; rfl)
        case e5 =>
          refine ob_val 5 rfl rfl (by simp) (fun tm u h => ⟨?ew5, ?_⟩)
          case ew5 => exact wanted_none rfl
          have f2 : tm.getD 64 undef = .bool true := h.dep 2 _ _ (by simp) rfl rfl ⟨_, rfl, by kernel_rfl⟩
          have f4 : tm.getD 66 undef = .bool true := h.dep 4 _ _ (by simp) rfl rfl ⟨_, rfl, by kernel_rfl⟩
          refine ⟨.bool true, u, ?_, rfl, Below.refl _ _⟩
          first | (go_simp; done) | (go_simp; rfl)
        case e6 =>
          refine ob_val 6 rfl rfl (by simp) (fun tm u h => ⟨?ew6, ?_⟩)
          case ew6 => exact wanted_none rfl
          have f5 : tm.getD 67 undef = .bool true := h.dep 5 _ _ (by simp) rfl rfl ⟨_, rfl, by kernel_rfl⟩
          exact ⟨.bool true, u, by first | (go_simp; done) | (go_simp; rfl), rfl, Below.refl _ _⟩
        case e7 =>
          refine ob_val 7 rfl rfl (by simp) (fun tm u h => ⟨?ew7, ?_⟩)
          case ew7 => exact wanted_of rfl rfl rfl (by rw [h.sz]; simp) (h.dep 6 _ _ (by simp) rfl rfl ⟨_, rfl, by kernel_rfl⟩)
          have s10 : tm.getD 10 undef = .pointer (some ⟨ga, 0, none⟩) := h.same 10 (of_decide_eq_true (by kernel_rfl))
          exact ⟨_, u, exec_load_ar 23 (.tmp 10) rfl ga s10 23 .u8 (sumK X S (k - 1)) 5 32 (Aa.below h.s Aa.lt) Tryd.u23 (hsla), rfl, Below.refl _ _⟩
        case e8 =>
          refine ob_val 8 rfl rfl (by simp) (fun tm u h => ⟨?ew8, ?_⟩)
          case ew8 => exact wanted_of rfl rfl rfl (by rw [h.sz]; simp) (h.dep 6 _ _ (by simp) rfl rfl ⟨_, rfl, by kernel_rfl⟩)
          have s12 : tm.getD 12 undef = .pointer (some ⟨gb, 0, none⟩) := h.same 12 (of_decide_eq_true (by kernel_rfl))
          exact ⟨_, u, exec_load_ar 23 (.tmp 12) rfl gb s12 23 .u8 (sumK X S k) 5 32 (Ab.below h.s Ab.lt) Tryd.u23 (hslb), rfl, Below.refl _ _⟩
        case e9 =>
          refine ob_call 9 rfl rfl (by simp) (fun tm u h => ⟨?ew9, ?_⟩)
          case ew9 => exact wanted_of rfl rfl rfl (by rw [h.sz]; simp) (h.dep 6 _ _ (by simp) rfl rfl ⟨_, rfl, by kernel_rfl⟩)
          have f7 : tm.getD 69 undef = .agg (ic .u8 (sumK X S (k - 1))).toArray := h.dep 7 _ _ (by simp) rfl rfl ⟨_, rfl, by kernel_rfl⟩
          have f8 : tm.getD 70 undef = .agg (ic .u8 (sumK X S k)).toArray := h.dep 8 _ _ (by simp) rfl rfl ⟨_, rfl, by kernel_rfl⟩
          refine ⟨18, #[.agg (ic .u8 (sumK X S (k - 1))).toArray, .agg (ic .u8 (sumK X S k)).toArray], by first | (go_simp; done) | (go_simp; rfl), ?_⟩
          refine (xor_any (sumK X S (k - 1)) (sumK X S k) u hsla hslb).mono ?_
          rintro e u2 ⟨rfl, hb2⟩
          exact ⟨_, rfl, rfl, hb2⟩
        case e10 =>
          refine ob_val 10 rfl rfl (by simp) (fun tm u h => ⟨?ew10, ?_⟩)
          case ew10 => exact wanted_of rfl rfl rfl (by rw [h.sz]; simp) (h.dep 6 _ _ (by simp) rfl rfl ⟨_, rfl, by kernel_rfl⟩)
          have s14 : tm.getD 14 undef = .pointer (some ⟨gu, 0, none⟩) := h.same 14 (of_decide_eq_true (by kernel_rfl))
          exact ⟨_, u, exec_load_ar 23 (.tmp 14) rfl gu s14 23 .u8 (uK X S k) 5 32 (Au.below h.s Au.lt) Tryd.u23 (hul), rfl, Below.refl _ _⟩
        case e11 =>
          refine ob_val 11 rfl rfl (by simp) (fun tm u h => ⟨?ew11, ?_⟩)
          case ew11 => exact wanted_of rfl rfl rfl (by rw [h.sz]; simp) (h.dep 6 _ _ (by simp) rfl rfl ⟨_, rfl, by kernel_rfl⟩)
          have f9 : tm.getD 71 undef = .agg (ic .u8 (xb (sumK X S (k - 1)) (sumK X S k) 32)).toArray := h.dep 9 _ _ (by simp) rfl rfl ⟨_, rfl, by kernel_rfl⟩
          have f10 : tm.getD 72 undef = .agg (ic .u8 (uK X S k)).toArray := h.dep 10 _ _ (by simp) rfl rfl ⟨_, rfl, by kernel_rfl⟩
          have heq := Tryd.eql23 u (xb (sumK X S (k - 1)) (sumK X S k) 32) (uK X S k) (by rw [xb_len]; exact hsla) hul
          rw [HE1.out] at heq
          exact ⟨_, u, exec_binOp .eql 23 (.tmp 71) (.tmp 72) _ rfl _ _ _ f9 f10 (Tryd.guard23 u .eql _ _ _ _) heq, rfl, Below.refl _ _⟩
        case e12 =>
          refine ob_val 12 rfl rfl (by simp) (fun tm u h => ⟨?ew12, ?_⟩)
          case ew12 => exact wanted_none rfl
          have f6 : tm.getD 68 undef = .bool true := h.dep 6 _ _ (by simp) rfl rfl ⟨_, rfl, by kernel_rfl⟩
          have f11 : tm.getD 73 undef = .bool true := h.dep 11 _ _ (by simp) rfl rfl ⟨_, rfl, by kernel_rfl⟩
          refine ⟨.bool true, u, ?_, rfl, Below.refl _ _⟩
          first | (go_simp; done) | (go_simp; rfl)
        case e13 =>
          refine ob_val 13 rfl rfl (by simp) (fun tm u h => ⟨?ew13, ?_⟩)
          case ew13 => exact wanted_none rfl
          have f12 : tm.getD 74 undef = .bool true := h.dep 12 _ _ (by simp) rfl rfl ⟨_, rfl, by kernel_rfl⟩
          exact ⟨.bool true, u, by first | (go_simp; done) | (go_simp; rfl), rfl, Below.refl _ _⟩
        case e14 =>
          refine ob_val 14 rfl rfl (by simp) (fun tm u h => ⟨?ew14, ?_⟩)
          case ew14 => exact wanted_of rfl rfl rfl (by rw [h.sz]; simp) (h.dep 13 _ _ (by simp) rfl rfl ⟨_, rfl, by kernel_rfl⟩)
          have s10 : tm.getD 10 undef = .pointer (some ⟨ga, 0, none⟩) := h.same 10 (of_decide_eq_true (by kernel_rfl))
          exact ⟨_, u, exec_load_ar 23 (.tmp 10) rfl ga s10 23 .u8 (sumK X S (k - 1)) 5 32 (Aa.below h.s Aa.lt) Tryd.u23 (hsla), rfl, Below.refl _ _⟩
        case e15 =>
          refine ob_val 15 rfl rfl (by simp) (fun tm u h => ⟨?ew15, ?_⟩)
          case ew15 => exact wanted_of rfl rfl rfl (by rw [h.sz]; simp) (h.dep 13 _ _ (by simp) rfl rfl ⟨_, rfl, by kernel_rfl⟩)
          have s10 : tm.getD 10 undef = .pointer (some ⟨ga, 0, none⟩) := h.same 10 (of_decide_eq_true (by kernel_rfl))
          exact ⟨_, u, exec_load_ar 23 (.tmp 10) rfl ga s10 23 .u8 (sumK X S (k - 1)) 5 32 (Aa.below h.s Aa.lt) Tryd.u23 (hsla), rfl, Below.refl _ _⟩
        case e16 =>
          refine ob_call 16 rfl rfl (by simp) (fun tm u h => ⟨?ew16, ?_⟩)
          case ew16 => exact wanted_of rfl rfl rfl (by rw [h.sz]; simp) (h.dep 13 _ _ (by simp) rfl rfl ⟨_, rfl, by kernel_rfl⟩)
          have f14 : tm.getD 76 undef = .agg (ic .u8 (sumK X S (k - 1))).toArray := h.dep 14 _ _ (by simp) rfl rfl ⟨_, rfl, by kernel_rfl⟩
          have f15 : tm.getD 77 undef = .agg (ic .u8 (sumK X S (k - 1))).toArray := h.dep 15 _ _ (by simp) rfl rfl ⟨_, rfl, by kernel_rfl⟩
          refine ⟨18, #[.agg (ic .u8 (sumK X S (k - 1))).toArray, .agg (ic .u8 (sumK X S (k - 1))).toArray], by first | (go_simp; done) | (go_simp; rfl), ?_⟩
          refine (xor_any (sumK X S (k - 1)) (sumK X S (k - 1)) u hsla hsla).mono ?_
          rintro e u2 ⟨rfl, hb2⟩
          exact ⟨_, rfl, rfl, hb2⟩
        case e17 =>
          refine ob_val 17 rfl rfl (by simp) (fun tm u h => ⟨?ew17, ?_⟩)
          case ew17 => exact wanted_of rfl rfl rfl (by rw [h.sz]; simp) (h.dep 13 _ _ (by simp) rfl rfl ⟨_, rfl, by kernel_rfl⟩)
          exact ⟨_, u, exec_build0 23 rfl _ hz23, rfl, Below.refl _ _⟩
        case e18 =>
          refine ob_val 18 rfl rfl (by simp) (fun tm u h => ⟨?ew18, ?_⟩)
          case ew18 => exact wanted_of rfl rfl rfl (by rw [h.sz]; simp) (h.dep 13 _ _ (by simp) rfl rfl ⟨_, rfl, by kernel_rfl⟩)
          have f16 : tm.getD 78 undef = .agg (ic .u8 (xb (sumK X S (k - 1)) (sumK X S (k - 1)) 32)).toArray := h.dep 16 _ _ (by simp) rfl rfl ⟨_, rfl, by kernel_rfl⟩
          have f17 : tm.getD 79 undef = .agg (ic .u8 (List.replicate 32 0)).toArray := h.dep 17 _ _ (by simp) rfl rfl ⟨_, rfl, by kernel_rfl⟩
          have heq := Tryd.eql23 u (xb (sumK X S (k - 1)) (sumK X S (k - 1)) 32) (List.replicate 32 0) (by rw [xb_len]; exact hsla) rfl
          rw [HE2.out] at heq
          exact ⟨_, u, exec_binOp .eql 23 (.tmp 78) (.tmp 79) _ rfl _ _ _ f16 f17 (Tryd.guard23 u .eql _ _ _ _) heq, rfl, Below.refl _ _⟩
        case e19 =>
          refine ob_val 19 rfl rfl (by simp) (fun tm u h => ⟨?ew19, ?_⟩)
          case ew19 => exact wanted_none rfl
          have f13 : tm.getD 75 undef = .bool true := h.dep 13 _ _ (by simp) rfl rfl ⟨_, rfl, by kernel_rfl⟩
          have f18 : tm.getD 80 undef = .bool true := h.dep 18 _ _ (by simp) rfl rfl ⟨_, rfl, by kernel_rfl⟩
          refine ⟨.bool true, u, ?_, rfl, Below.refl _ _⟩
          first | (go_simp; done) | (go_simp; rfl)
        case e20 =>
          refine ob_val 20 rfl rfl (by simp) (fun tm u h => ⟨?ew20, ?_⟩)
          case ew20 => exact wanted_none rfl
          have f19 : tm.getD 81 undef = .bool true := h.dep 19 _ _ (by simp) rfl rfl ⟨_, rfl, by kernel_rfl⟩
          exact ⟨.bool true, u, by first | (go_simp; done) | (go_simp; rfl), rfl, Below.refl _ _⟩
        case e21 =>
          refine ob_call 21 rfl rfl (by simp) (fun tm u h => ⟨?ew21, ?_⟩)
          case ew21 => exact wanted_of rfl rfl rfl (by rw [h.sz]; simp) (h.dep 20 _ _ (by simp) rfl rfl ⟨_, rfl, by kernel_rfl⟩)
          refine ⟨12, #[], by first | (go_simp; done) | (go_simp; rfl), ?_⟩
          refine (wakes_any u (hKr.below (Nat.le_refl _) h.s)).mono ?_
          rintro e u2 ⟨rfl, hb2⟩
          exact ⟨_, rfl, rfl, hb2⟩
        case e22 =>
          refine ob_val 22 rfl rfl (by simp) (fun tm u h => ⟨?ew22, ?_⟩)
          case ew22 => exact wanted_none rfl
          have f20 : tm.getD 82 undef = .bool true := h.dep 20 _ _ (by simp) rfl rfl ⟨_, rfl, by kernel_rfl⟩
          have f21 : tm.getD 83 undef = .bool true := h.dep 21 _ _ (by simp) rfl rfl ⟨_, rfl, by kernel_rfl⟩
          refine ⟨.bool true, u, ?_, rfl, Below.refl _ _⟩
          first | (go_simp; done) | (go_simp; rfl)
      intro af wf hAO
      have hv : af.tmps.getD 84 undef = .bool true := hAO.got 22 _ _ rfl (by simp) rfl rfl
      have hs := hAO.s
      obtain ⟨tm, dfx⟩ := af
      obtain rfl : dfx = [] := hAO.df
      have hsz : tm.size = 85 := hAO.sz
      refine lx_one 23 (by kernel_rfl) (stepT_val (w' := wf) (.bool true) rfl rfl rfl ?_ (fun _ => trivial) ?_)
      · first | (go_simp; done) | (go_simp; rfl)
      refine lx_nil (by kernel_rfl) ?_
      have e9 : Below w.heap.size w wf := HBW.out.trans (hs.mono HBW.out.size)
      have hr : (tm.setIfInBounds 6 (Value.bool true)).getD 6 undef = .bool true := by rw [Array.getD_eq_getD_getElem?, Array.getElem?_setIfInBounds_self_of_lt (by omega)]; rfl
      generalize tm.setIfInBounds 6 (Value.bool true) = tf at hr
      clear hAO hv hs hsz
      go_wp2_with fail
      refine bodyPost_ret (results_tmp (t := 6) Tryd.results6 _ _ _) rfl ⟨?_, e9⟩
      exact congrArg Ending.returned hr

end Go.Proofs.YtbeemlfggbnknaaDoor
