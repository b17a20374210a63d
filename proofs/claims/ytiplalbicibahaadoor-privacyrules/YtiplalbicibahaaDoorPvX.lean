/- PrivacyRules: any text as a rule, any rule as text; there and back. -/
import Derived.Test.YtiplalbicibahaaDoorPvT
set_option maxRecDepth 100000
namespace Go.Proofs.YtiplalbicibahaaDoor
open Go.RowKit Go.Joins Go.Shelf

theorem new_ru (w : World) (p : Rul) : RuAt ((w.alloc oRul).setRow w.heap.size (rc p)) w.heap.size p ∧ Below w.heap.size w ((w.alloc oRul).setRow w.heap.size (rc p)) :=
  ⟨RuAt.set (w := w.alloc oRul) (r := r0) (push_at _ _ rfl) _, (below1 w oRul).trans ((rowK (w.alloc oRul) w.heap.size _).below (by simp) (fun j e => by omega))⟩
theorem okT_back {r : Rul} (h : okT r = true) : parseR (writtenR r) = (r, 0) := by
  unfold okT at h
  simp only [Bool.and_eq_true, beq_iff_eq] at h
  exact Prod.ext (eqRul_true h.2) h.1
theorem writtenR_le {r : Rul} (hz : r.k.length + r.v.length ≤ 281474976710000) : (writtenR r).length ≤ 281474976710656 := by
  have := writtenR_len r
  omega

set_option maxHeartbeats 3200000 in
theorem privacyRules_any (s : ByteArray) (r : Rul) (w : World) (hz : r.k.length + r.v.length ≤ 281474976710000) (hT : Lib.Utf8Tabs 0 1 w) :
    Calls Tryd.prog 3 #[.string s, rv r] w fun e w' => e = .returned (.bool true) ∧ Below w.heap.size w w' := by
  rw [← ba_back s]
  generalize s.data.toList = x
  have cX := fun w => text_any x 200 w (by omega)
  have hS : (x.take 200).length ≤ 281474976710656 := by rw [List.length_take]; omega
  generalize x.take 200 = S at cX hS
  have cQ1 := fun W => qparse_any S W hS
  have cP1 : Hid (∀ W, Below w.heap.size w W → Calls Tryd.prog 7 #[.string (ba S)] W fun e w' => e = .returned (prv S) ∧ Below W.heap.size W w') := fun W hb => parse_any S W hS (tabs_bel hT hb)
  have cT : Hid (∀ W, Below w.heap.size w W → Calls Tryd.prog 10 #[rv r] W fun e w' => e = .returned (textV r) ∧ Below W.heap.size W w') := fun W hb => text_rule r W hz (tabs_bel hT hb)
  have cU := fun W => qtext_any r W hz
  have cK : Hid (∀ W, Below w.heap.size w W → Calls Tryd.prog 12 #[] W fun e w' => e = .returned (.bool true) ∧ Below W.heap.size W w') := fun W hb => wakes_any W (tabs_bel hT hb)
  have cP2 : okT r = true → Hid (∀ W, Below w.heap.size w W → Calls Tryd.prog 7 #[.string (ba (writtenR r))] W fun e w' => e = .returned (.tuple #[rv r, .int .i64 0]) ∧ Below W.heap.size W w') := fun h W hb => by
    have := parse_any (writtenR r) W (writtenR_le hz) (tabs_bel hT hb)
    unfold prv at this
    rw [okT_back h] at this
    exact this
  have HX : Hid (RuAt (w.alloc (.cells (rc r) 23)) w.heap.size r ∧ Below w.heap.size w (w.alloc (.cells (rc r) 23))) := ⟨push_at _ _ rfl, below1 _ _⟩
  clear hz hT hS
  unfold prv at cQ1 cP1
  unfold textV at cT
  unfold qtv at cU
  generalize parseR S = q at *
  obtain ⟨p, n⟩ := q
  dsimp only at cQ1 cP1
  have hnn : ((n : Int) != (n : Int)) = false := by simp
  have cS1 : ∀ W, Calls Tryd.prog 9 #[rv p, rv p] W fun e w' => e = .returned (.bool true) ∧ Below W.heap.size W w' := fun W => by
    have := sameR_any p p W
    rw [eqRul_self] at this
    exact this
  have cS2 : ∀ W, Calls Tryd.prog 9 #[rv r, rv r] W fun e w' => e = .returned (.bool true) ∧ Below W.heap.size W w' := fun W => by
    have := sameR_any r r W
    rw [eqRul_self] at this
    exact this
  obtain ⟨V, HV⟩ : ∃ V, Hid (rv p = V) := ⟨_, rfl⟩
  rw [HV.out] at cQ1 cP1
  cases hok : okT r with
  | true =>
    have cP2' := cP2 hok
    clear cP2
    rw [hok] at cT cU
    rw [if_pos rfl, if_pos rfl] at cT
    rw [if_pos rfl] at cU
    clear hok
    generalize writtenR r = T at *
    have htt : ((ba T).toList == (ba T).toList) = true := by simp
    show Calls _ _ #[_, .agg (rc r)] _ _
    unfold rc
    unfold rc at HX
    go_enter Tryd.func3, Tryd.ntmps3
    go_upto_region 1 with fail
    generalize w.alloc _ = X at HX ⊢
    obtain ⟨B, HB⟩ : ∃ B, Hid (w.heap.size = B) := ⟨_, rfl⟩
    rw [HB.out] at HX cP1 cT cK cP2' ⊢
    go_upto_region 3 with (first
      | (go_at_call 6; refine (cX _).mono ?_; clear cX; rintro e w1 ⟨rfl, hw1⟩; replace hw1 := hw1.symm; subst hw1)
      | (go_at_call 7; refine (cP1.out _ HX.out.2).mono ?_; clear cP1; rintro e w2 ⟨rfl, hb2⟩)
      | (refine wp_store_ru rfl (.tmp 6) (.tmp 20) rfl w2.heap.size rfl p HV.out.symm r0 (push_at _ _ rfl) ?_))
    have R3 : Hid (RuAt ((w2.alloc oRul).setRow w2.heap.size (rc p)) B r ∧ RuAt ((w2.alloc oRul).setRow w2.heap.size (rc p)) w2.heap.size p ∧ Below B w ((w2.alloc oRul).setRow w2.heap.size (rc p))) := by
      obtain ⟨h1, h2⟩ := new_ru w2 p
      have h3 := HX.out.2.size
      have h4 := hb2.size
      have h5 := HB.out
      exact ⟨(HX.out.1.carry hb2).carry h2, h1, (HX.out.2.trans (hb2.mono (by omega))).trans (h2.mono (by omega))⟩
    generalize (w2.alloc _).setRow _ _ = w3 at R3 ⊢
    generalize w2.heap.size = g1 at R3 ⊢
    clear HX hb2
    go_upto_region 4 with (first
      | (go_at_call 8; refine (cQ1 _).mono ?_; clear cQ1; rintro e w4 ⟨rfl, hb4⟩)
      | (refine wp_store_ru rfl (.tmp 8) (.tmp 25) rfl w4.heap.size rfl p HV.out.symm r0 (push_at _ _ rfl) ?_))
    have R5 : Hid (RuAt ((w4.alloc oRul).setRow w4.heap.size (rc p)) B r ∧ RuAt ((w4.alloc oRul).setRow w4.heap.size (rc p)) g1 p ∧ RuAt ((w4.alloc oRul).setRow w4.heap.size (rc p)) w4.heap.size p ∧ Below B w ((w4.alloc oRul).setRow w4.heap.size (rc p))) := by
      obtain ⟨h1, h2⟩ := new_ru w4 p
      have h3 := R3.out.2.2.size
      have h4 := hb4.size
      have h5 := HB.out
      exact ⟨(R3.out.1.carry hb4).carry h2, (R3.out.2.1.carry hb4).carry h2, h1, (R3.out.2.2.trans (hb4.mono (by omega))).trans (h2.mono (by omega))⟩
    generalize (w4.alloc _).setRow _ _ = w5 at R5 ⊢
    generalize w4.heap.size = g2 at R5 ⊢
    clear R3 hb4 HV
    go_upto_region 12 with (first
      | (refine wp_load_ru rfl (.tmp 6) rfl g1 rfl p R5.out.2.1 ?_)
      | (refine wp_load_ru rfl (.tmp 8) rfl g2 rfl p R5.out.2.2.1 ?_)
      | (go_at_call 9; refine (cS1 _).mono ?_; clear cS1; rintro e w6 ⟨rfl, hb6⟩; have R6 : Hid (RuAt w6 B r ∧ Below B w w6) := ⟨R5.out.1.carry hb6, R5.out.2.2.2.trans (hb6.mono (by have := R5.out.2.2.2.size; have := HB.out; omega))⟩; clear hb6 R5)
      | (refine wp_load_ru rfl (.tmp 3) rfl B rfl r R7.out.1 ?_)
      | (refine wp_load_ru rfl (.tmp 3) rfl B rfl r R6.out.1 ?_)
      | (go_at_call 10; refine (cT.out _ R6.out.2).mono ?_; clear cT; rintro e w7 ⟨rfl, hb7⟩; have R7 : Hid (RuAt w7 B r ∧ Below B w w7) := ⟨R6.out.1.carry hb7, R6.out.2.trans (hb7.mono (by have := R6.out.2.size; have := HB.out; omega))⟩; clear hb7 R6)
      | (go_at_call 11; refine (cU _).mono ?_; clear cU; rintro e w8 ⟨rfl, hb8⟩; have R8 : Hid (RuAt w8 B r ∧ Below B w w8) := ⟨R7.out.1.carry hb8, R7.out.2.trans (hb8.mono (by have := R7.out.2.size; have := HB.out; omega))⟩; clear hb8 R7)
      | (go_at_call 7; refine (cP2'.out _ R8.out.2).mono ?_; clear cP2'; rintro e w9 ⟨rfl, hb9⟩)
      | (refine wp_store_ru rfl (.tmp 13) (.tmp 67) rfl w9.heap.size rfl r rfl r0 (push_at _ _ rfl) ?_))
    have R10 : Hid (RuAt ((w9.alloc oRul).setRow w9.heap.size (rc r)) B r ∧ RuAt ((w9.alloc oRul).setRow w9.heap.size (rc r)) w9.heap.size r ∧ Below B w ((w9.alloc oRul).setRow w9.heap.size (rc r))) := by
      obtain ⟨h1, h2⟩ := new_ru w9 r
      have h3 := R8.out.2.size
      have h4 := hb9.size
      have h5 := HB.out
      exact ⟨(R8.out.1.carry hb9).carry h2, h1, (R8.out.2.trans (hb9.mono (by omega))).trans (h2.mono (by omega))⟩
    generalize (w9.alloc _).setRow _ _ = w10 at R10 ⊢
    generalize w9.heap.size = g3 at R10 ⊢
    clear R8 hb9
    go_wp2_with (first
      | (refine wp_load_ruW (by rfl) (.tmp 13) rfl g3 rfl r R10.out.2.1 ?_)
      | (refine wp_load_ruW (by rfl) (.tmp 3) rfl B rfl r R10.out.1 ?_)
      | (go_at_call 9; refine (cS2 _).mono ?_; clear cS2; rintro e w11 ⟨rfl, hb11⟩; have R11 : Hid (Below B w w11) := (show Below B w w11 from R10.out.2.2.trans (hb11.mono (by have := R10.out.2.2.size; have := HB.out; omega))); clear hb11 R10)
      | (go_at_call 12; refine (cK.out _ R11.out).mono ?_; clear cK; rintro e w12 ⟨rfl, hb12⟩))
    go_ret
    exact ⟨rfl, by rw [HB.out]; exact R11.out.trans (hb12.mono (by have := R11.out.size; have := HB.out; omega))⟩
  | false =>
    clear cP2 cS2
    rw [hok] at cT cU
    rw [if_neg (by decide), if_neg (by decide)] at cT
    rw [if_neg (by decide)] at cU
    clear hok
    show Calls _ _ #[_, .agg (rc r)] _ _
    unfold rc
    unfold rc at HX
    go_enter Tryd.func3, Tryd.ntmps3
    go_upto_region 1 with fail
    generalize w.alloc _ = X at HX ⊢
    obtain ⟨B, HB⟩ : ∃ B, Hid (w.heap.size = B) := ⟨_, rfl⟩
    rw [HB.out] at HX cP1 cT cK ⊢
    go_upto_region 3 with (first
      | (go_at_call 6; refine (cX _).mono ?_; clear cX; rintro e w1 ⟨rfl, hw1⟩; replace hw1 := hw1.symm; subst hw1)
      | (go_at_call 7; refine (cP1.out _ HX.out.2).mono ?_; clear cP1; rintro e w2 ⟨rfl, hb2⟩)
      | (refine wp_store_ru rfl (.tmp 6) (.tmp 20) rfl w2.heap.size rfl p HV.out.symm r0 (push_at _ _ rfl) ?_))
    have R3 : Hid (RuAt ((w2.alloc oRul).setRow w2.heap.size (rc p)) B r ∧ RuAt ((w2.alloc oRul).setRow w2.heap.size (rc p)) w2.heap.size p ∧ Below B w ((w2.alloc oRul).setRow w2.heap.size (rc p))) := by
      obtain ⟨h1, h2⟩ := new_ru w2 p
      have h3 := HX.out.2.size
      have h4 := hb2.size
      have h5 := HB.out
      exact ⟨(HX.out.1.carry hb2).carry h2, h1, (HX.out.2.trans (hb2.mono (by omega))).trans (h2.mono (by omega))⟩
    generalize (w2.alloc _).setRow _ _ = w3 at R3 ⊢
    generalize w2.heap.size = g1 at R3 ⊢
    clear HX hb2
    go_upto_region 4 with (first
      | (go_at_call 8; refine (cQ1 _).mono ?_; clear cQ1; rintro e w4 ⟨rfl, hb4⟩)
      | (refine wp_store_ru rfl (.tmp 8) (.tmp 25) rfl w4.heap.size rfl p HV.out.symm r0 (push_at _ _ rfl) ?_))
    have R5 : Hid (RuAt ((w4.alloc oRul).setRow w4.heap.size (rc p)) B r ∧ RuAt ((w4.alloc oRul).setRow w4.heap.size (rc p)) g1 p ∧ RuAt ((w4.alloc oRul).setRow w4.heap.size (rc p)) w4.heap.size p ∧ Below B w ((w4.alloc oRul).setRow w4.heap.size (rc p))) := by
      obtain ⟨h1, h2⟩ := new_ru w4 p
      have h3 := R3.out.2.2.size
      have h4 := hb4.size
      have h5 := HB.out
      exact ⟨(R3.out.1.carry hb4).carry h2, (R3.out.2.1.carry hb4).carry h2, h1, (R3.out.2.2.trans (hb4.mono (by omega))).trans (h2.mono (by omega))⟩
    generalize (w4.alloc _).setRow _ _ = w5 at R5 ⊢
    generalize w4.heap.size = g2 at R5 ⊢
    clear R3 hb4 HV
    go_wp2_with (first
      | (refine wp_load_ru rfl (.tmp 6) rfl g1 rfl p R5.out.2.1 ?_)
      | (refine wp_load_ru rfl (.tmp 8) rfl g2 rfl p R5.out.2.2.1 ?_)
      | (go_at_call 9; refine (cS1 _).mono ?_; clear cS1; rintro e w6 ⟨rfl, hb6⟩; have R6 : Hid (RuAt w6 B r ∧ Below B w w6) := ⟨R5.out.1.carry hb6, R5.out.2.2.2.trans (hb6.mono (by have := R5.out.2.2.2.size; have := HB.out; omega))⟩; clear hb6 R5)
      | (refine wp_load_ru rfl (.tmp 3) rfl B rfl r R7.out.1 ?_)
      | (refine wp_load_ru rfl (.tmp 3) rfl B rfl r R6.out.1 ?_)
      | (go_at_call 10; refine (cT.out _ R6.out.2).mono ?_; clear cT; rintro e w7 ⟨rfl, hb7⟩; have R7 : Hid (RuAt w7 B r ∧ Below B w w7) := ⟨R6.out.1.carry hb7, R6.out.2.trans (hb7.mono (by have := R6.out.2.size; have := HB.out; omega))⟩; clear hb7 R6)
      | (go_at_call 11; refine (cU _).mono ?_; clear cU; rintro e w8 ⟨rfl, hb8⟩; have R8 : Hid (RuAt w8 B r ∧ Below B w w8) := ⟨R7.out.1.carry hb8, R7.out.2.trans (hb8.mono (by have := R7.out.2.size; have := HB.out; omega))⟩; clear hb8 R7)
      | (go_at_call 12; refine (cK.out _ R8.out.2).mono ?_; clear cK; rintro e w12 ⟨rfl, hb12⟩))
    go_ret
    exact ⟨rfl, by rw [HB.out]; exact R8.out.2.trans (hb12.mono (by have := R8.out.2.size; have := HB.out; omega))⟩
end Go.Proofs.YtiplalbicibahaaDoor
