/- OctetShort: whatever two numbers and whatever bytes ahead, the form of a number has as many bytes as the number needs and at most ten, that of a greater number never fewer, each form that is cut short is refused, and PutUint lays the form behind the bytes; the law returns true and nothing that was there is written. For every input, no condition. -/
import Derived.Test.YtephpbbooicfoaaRows
import Derived.Test.YtephpbbooicfoaaShared
namespace Go.Proofs.Ytephpbbooicfoaa.octetShort
open Go.ChangeShapes Go.WideShapes Go.ChangeAt Go.RowKit
open Go.Proofs.Ytephpbbooicfoaa

theorem form_mono (a : Nat) : ∀ b, a ≤ b → (form a).length ≤ (form b).length := by
  induction a using form_induct with
  | case1 n h => intro b _; rw [form_small h]; exact form_pos b
  | case2 n h ih =>
    intro b hb
    rw [form_big h, form_big (by omega : ¬ b < 128)]
    have := ih (b / 128) (Nat.div_le_div_right hb)
    simp; omega

theorem scan_prefix (n : Nat) : ∀ k i acc, k + i ≤ 9 → k < (form n).length → scan ((form n).take k) i acc = (0, 0, 2) := by
  induction n using form_induct with
  | case1 n h =>
    intro k i acc _ hk
    rw [form_small h] at hk ⊢
    have : k = 0 := by simpa using hk
    subst this; rfl
  | case2 n h ih =>
    intro k i acc hi hk
    rw [form_big h] at hk ⊢
    cases k with
    | zero => rfl
    | succ k =>
      rw [List.take_succ_cons, scan_more (by omega) (by omega)]
      exact ih k (i + 1) _ (by omega) (by simpa using hk)

theorem uintCut (a k : Nat) (ha : a < 18446744073709551616) (hk : k < (form a).length) (a' : Option Addr) (c' : Nat) (w : World) (hR : Rd w a' k c' ((form a).take k)) :
    Calls Try.prog 20 #[.slice a' k c'] w fun e w' => e = .returned (.tuple #[.int .u64 0, .slice none 0 0, .int .i64 2]) ∧ w' = w := by
  have hl := form_len10 a ha
  have HU := uint_any a' k c' _ w hR (by omega)
  rw [scan_prefix a k 0 0 (by omega) hk] at HU
  refine HU.mono ?_
  rintro e w1 (⟨_, he, hw⟩ | ⟨h, _⟩)
  · exact ⟨he, hw⟩
  · cases h

set_option maxHeartbeats 1600000 in
theorem walkN (a b : Nat) (ha : a < 18446744073709551616) (hb : b < 18446744073709551616) (ao : Option Addr) (n c : Nat) (xs : List Int) (w : World) (hR : Rd w ao n c xs) (hab : a ≤ b) :
    Calls Try.prog 5 #[.int .u64 a, .int .u64 b, .slice ao n c] w fun e w' => e = .returned (.bool true) ∧ Below w.heap.size w w' := by
  have hab' : ¬ (b : Int) < (a : Int) := by omega
  have hfm := form_mono a b hab
  have hl10 := form_len10 b hb
  have tok : True := trivial
  go_enter Try.func5, Try.ntmps5
  go_wp2_with (first | (go_at_call 9; clear tok; refine (putNil a _ (by assumption)).mono ?_; rintro e w1 ⟨a1, c1, rfl, hr1, hb1⟩) | (go_at_call 9; refine (putNil b _ (by assumption)).mono ?_; rintro e w2 ⟨a2, c2, rfl, hr2, hb2⟩))
  have hbb := hb1.trans (hb2.mono hb1.size)
  have hr1' := hr1.carry (Nat.le_refl _) hb2
  clear hr1 hb1 hb2 hr2
  go_loop [9, 10] (fun t m => ∃ i j : Nat, m = .int .u64 j ∧ t = .int .i64 i ∧ j ≤ a ∧ i + (form j).length = (form a).length + 1) (fun _ m => (intOf m).toNat)
  case atStart => exact ⟨1, a, rfl, rfl, Nat.le_refl _, by omega⟩
  case round =>
    obtain ⟨i, j, rfl, rfl, hja, hij⟩ := hrel
    have hfp := form_pos j
    by_cases hj : (128 : Int) ≤ (j : Int)
    · have HF : Hid ((form j).length = (form (j / 128)).length + 1) := (by rw [form_big (by omega)]; rfl : (form j).length = (form (j / 128)).length + 1)
      go_wp2
      go_round
      case rel => exact ⟨i + 1, j / 128, by go_num, by go_num, by omega, by have := HF.out; omega⟩
      case measure => simp [intOf]; omega
    · have hi : i = (form a).length := by rw [form_small (by omega)] at hij; simpa using hij
      subst hi
      clear hij hfp
      go_wp2
      go_loopw [11] (fun t wr => ∃ k : Nat, k ≤ (form a).length ∧ t = .int .i64 k ∧ Below w2.heap.size w2 wr) (fun t _ => (form a).length - (intOf t).toNat)
      case atStart => exact ⟨0, Nat.zero_le _, rfl, Below.refl _ _⟩
      case round =>
        obtain ⟨k, hk, rfl, hbel⟩ := hrel
        have hr1r := hr1'.carry (Nat.le_refl _) hbel
        by_cases hlt : k < (form a).length
        · have hcut := hr1r.take (Nat.le_of_lt hlt)
          have hsz := hbel.size
          have hcap := hr1'.cap
          go_wp2_with (first
            | (at_builtin; refine wp_app0 rfl _ _ rfl rfl a1 k c1 ((form a).take k) rfl hcut (by omega) ?_; intro v3 w3 hown3 hb3; obtain ⟨a3, c3, rfl, hr3⟩ := Rd.ofOwn hown3 ((form_bd a).take k))
            | (go_at_call 20; refine (uintCut a k (by assumption) hlt a3 c3 _ hr3).mono ?_; rintro e w4 ⟨rfl, rfl⟩))
          go_roundw
          case rel => exact ⟨k + 1, by omega, by go_num, hbel.trans (hb3.mono hsz)⟩
          case measure => simp [intOf]; omega
        · have hRr := (hR.carry (Nat.le_refl _) (hbb.trans (hbel.mono hbb.size)))
          go_wp2_with (first
            | (go_at_call 21; refine (twinR ao n c xs 100 _ hRr (by omega)).mono ?_; rintro e w3 ⟨a3, n3, c3, rfl, hn3, hr3, hb3⟩)
            | (at_builtin; refine wp_app0 rfl _ _ rfl rfl a3 n3 c3 (xs.take 100) rfl hr3 (by omega) ?_; intro v4 w4 hown4 hb4; obtain ⟨a4, c4, rfl, hr4⟩ := Rd.ofOwn hown4 (hR.bytes.take 100))
            | (go_at_call 9; refine (putR a4 n3 c4 (xs.take 100) a _ hr4 (by omega) (by assumption)).mono ?_; rintro e w5 ⟨a5, n5, c5, rfl, hr5, hb5⟩; have hs5 := hr5.string; rw [← str_append] at hs5; have hb35 := hb4.trans (hb5.mono hb4.size); have hs3 := (hr3.carry (Nat.le_refl _) hb35).string; have hs1 := (hr1r.carry (Nat.le_refl _) (hb3.trans (hb35.mono hb3.size))).string; have hz3 := strOfNums_size (xs.take 100); have hz1 := strOfNums_size (form a))
            | (go_at_call 17; refine (wakes_any _).mono ?_; rintro e w6 ⟨rfl, hb6⟩))
          go_ret
          exact ⟨rfl, (hbb.trans (hbel.mono hbb.size)).trans ((hb3.trans ((hb4.trans (hb5.mono hb4.size)).mono hb3.size)).trans (hb6.mono (by have := hb3.size; have := hb4.size; have := hb5.size; omega)) |>.mono (by have := hbb.size; have := hbel.size; omega))⟩

set_option maxHeartbeats 1600000 in
theorem walkS (a b : Nat) (ha : a < 18446744073709551616) (hb : b < 18446744073709551616) (ao : Option Addr) (n c : Nat) (xs : List Int) (w : World) (hR : Rd w ao n c xs) (hlt0 : a < b) :
    Calls Try.prog 5 #[.int .u64 b, .int .u64 a, .slice ao n c] w fun e w' => e = .returned (.bool true) ∧ Below w.heap.size w w' := by
  have hab : a ≤ b := Nat.le_of_lt hlt0
  have hab' : (a : Int) < (b : Int) := by omega
  have hfm := form_mono a b hab
  have hl10 := form_len10 b hb
  have tok : True := trivial
  go_enter Try.func5, Try.ntmps5
  go_wp2_with (first | (go_at_call 9; clear tok; refine (putNil a _ (by assumption)).mono ?_; rintro e w1 ⟨a1, c1, rfl, hr1, hb1⟩) | (go_at_call 9; refine (putNil b _ (by assumption)).mono ?_; rintro e w2 ⟨a2, c2, rfl, hr2, hb2⟩))
  have hbb := hb1.trans (hb2.mono hb1.size)
  have hr1' := hr1.carry (Nat.le_refl _) hb2
  clear hr1 hb1 hb2 hr2
  go_loop [9, 10] (fun t m => ∃ i j : Nat, m = .int .u64 j ∧ t = .int .i64 i ∧ j ≤ a ∧ i + (form j).length = (form a).length + 1) (fun _ m => (intOf m).toNat)
  case atStart => exact ⟨1, a, rfl, rfl, Nat.le_refl _, by omega⟩
  case round =>
    obtain ⟨i, j, rfl, rfl, hja, hij⟩ := hrel
    have hfp := form_pos j
    by_cases hj : (128 : Int) ≤ (j : Int)
    · have HF : Hid ((form j).length = (form (j / 128)).length + 1) := (by rw [form_big (by omega)]; rfl : (form j).length = (form (j / 128)).length + 1)
      go_wp2
      go_round
      case rel => exact ⟨i + 1, j / 128, by go_num, by go_num, by omega, by have := HF.out; omega⟩
      case measure => simp [intOf]; omega
    · have hi : i = (form a).length := by rw [form_small (by omega)] at hij; simpa using hij
      subst hi
      clear hij hfp
      go_wp2
      go_loopw [11] (fun t wr => ∃ k : Nat, k ≤ (form a).length ∧ t = .int .i64 k ∧ Below w2.heap.size w2 wr) (fun t _ => (form a).length - (intOf t).toNat)
      case atStart => exact ⟨0, Nat.zero_le _, rfl, Below.refl _ _⟩
      case round =>
        obtain ⟨k, hk, rfl, hbel⟩ := hrel
        have hr1r := hr1'.carry (Nat.le_refl _) hbel
        by_cases hlt : k < (form a).length
        · have hcut := hr1r.take (Nat.le_of_lt hlt)
          have hsz := hbel.size
          have hcap := hr1'.cap
          go_wp2_with (first
            | (at_builtin; refine wp_app0 rfl _ _ rfl rfl a1 k c1 ((form a).take k) rfl hcut (by omega) ?_; intro v3 w3 hown3 hb3; obtain ⟨a3, c3, rfl, hr3⟩ := Rd.ofOwn hown3 ((form_bd a).take k))
            | (go_at_call 20; refine (uintCut a k (by assumption) hlt a3 c3 _ hr3).mono ?_; rintro e w4 ⟨rfl, rfl⟩))
          go_roundw
          case rel => exact ⟨k + 1, by omega, by go_num, hbel.trans (hb3.mono hsz)⟩
          case measure => simp [intOf]; omega
        · have hRr := (hR.carry (Nat.le_refl _) (hbb.trans (hbel.mono hbb.size)))
          go_wp2_with (first
            | (go_at_call 21; refine (twinR ao n c xs 100 _ hRr (by omega)).mono ?_; rintro e w3 ⟨a3, n3, c3, rfl, hn3, hr3, hb3⟩)
            | (at_builtin; refine wp_app0 rfl _ _ rfl rfl a3 n3 c3 (xs.take 100) rfl hr3 (by omega) ?_; intro v4 w4 hown4 hb4; obtain ⟨a4, c4, rfl, hr4⟩ := Rd.ofOwn hown4 (hR.bytes.take 100))
            | (go_at_call 9; refine (putR a4 n3 c4 (xs.take 100) a _ hr4 (by omega) (by assumption)).mono ?_; rintro e w5 ⟨a5, n5, c5, rfl, hr5, hb5⟩; have hs5 := hr5.string; rw [← str_append] at hs5; have hb35 := hb4.trans (hb5.mono hb4.size); have hs3 := (hr3.carry (Nat.le_refl _) hb35).string; have hs1 := (hr1r.carry (Nat.le_refl _) (hb3.trans (hb35.mono hb3.size))).string; have hz3 := strOfNums_size (xs.take 100); have hz1 := strOfNums_size (form a))
            | (go_at_call 17; refine (wakes_any _).mono ?_; rintro e w6 ⟨rfl, hb6⟩))
          go_ret
          exact ⟨rfl, (hbb.trans (hbel.mono hbb.size)).trans ((hb3.trans ((hb4.trans (hb5.mono hb4.size)).mono hb3.size)).trans (hb6.mono (by have := hb3.size; have := hb4.size; have := hb5.size; omega)) |>.mono (by have := hbb.size; have := hbel.size; omega))⟩

theorem own : ownKnob Try.prog.godebug = none := by kernel_rfl
theorem laidOut : laidOutB Try.prog = true := by kernel_rfl

theorem walk (a0 a1 : Int) (w0 : (Lit.int .u64 a0).wf = true) (w1 : (Lit.int .u64 a1).wf = true) (ao : Option Addr) (n c : Nat) (xs : List Int) (w : World) (hR : Rd w ao n c xs) :
    Calls Try.prog 5 #[.int .u64 a0, .int .u64 a1, .slice ao n c] w fun e w' => e = .returned (.bool true) ∧ Below w.heap.size w w' := by
  have b0 := bounds_u64 w0
  have b1 := bounds_u64 w1
  by_cases h : a0 ≤ a1
  · have h := walkN a0.toNat a1.toNat (by omega) (by omega) ao n c xs w hR (by omega)
    rw [Int.toNat_of_nonneg b0.1, Int.toNat_of_nonneg b1.1] at h
    exact h
  · have h := walkS a1.toNat a0.toNat (by omega) (by omega) ao n c xs w hR (by omega)
    rw [Int.toNat_of_nonneg b0.1, Int.toNat_of_nonneg b1.1] at h
    exact h

set_option maxRecDepth 100000 in
theorem lifted (os : Os) (started : os.Started) (H : Type) (enc : TypeId × Value → H) :
    ReturnsInHanded {} Try.checked os 5 .any (Rows.octetShortSpec.pre6 enc Try.prog Try.f5 Rows.octetShortRow.domain false) (Rows.octetShortSpec.post enc Try.prog Try.f5 false true false false) := by
  refine returnsInHanded_of_change (C := Try.checked) own started (by kernel_rfl) Try.func5
    (ChangeSpec.witness6 (enc := enc) (C := Try.checked) false ⟨#[], #[.int .u64 0, .int .u64 0, .slice none 0 0], []⟩ 8 (by kernel_rfl) (by kernel_rfl) (by kernel_rfl) (by kernel_rfl)) ?_
  intro W base args ds gs before hval0 hW hcnd _
  have hval : ∀ (j : Nat) t v, Try.f5.params[j]? = some t → args[j]? = some v → Value.okWide Try.prog W .any base t v := hval0
  have hW' := hW
  obtain ⟨p, q, hA0, hV, rfl, hfz, hnd⟩ := hW
  have hA : DataW.TrodAll enc Try.prog W 0 (fun _ => true) true Try.f5.params.toList args.toList ds p := hA0
  rw [Try.params5] at hA hval
  obtain ⟨v0, vs0, d0, ds0, p0, q0, hargs, rfl, rfl, h0, r0⟩ := trodAll_cons hA
  obtain ⟨v1, vs1, d1, ds1, p1, q1, rfl, rfl, rfl, h1, r1⟩ := trodAll_cons r0
  obtain ⟨v2, vs2, d2, ds2, p2, q2, rfl, rfl, rfl, h2, r2⟩ := trodAll_cons r1
  obtain ⟨rfl, rfl, rfl⟩ := trodAll_nil r2
  obtain rfl : args = #[v0, v1, v2] := by cases args; simp_all
  obtain ⟨rfl, rfl⟩ := trodVars_none hV
  obtain ⟨a0, rfl, rfl, rfl, w0⟩ := open_int Try.underlying23 (hval 0 23 v0 rfl rfl) h0
  obtain ⟨a1, rfl, rfl, rfl, w1⟩ := open_int Try.underlying23 (hval 1 23 v1 rfl rfl) h1
  obtain ⟨a2, len2, cap2, rfl⟩ := okWide_slice Try.underlying22 (hval 2 22 v2 rfl rfl)
  have k2 := h2
  have lt2 : ∀ x ∈ p2, x.block < W.heap.size := by obtain ⟨m, hm⟩ := k2; exact DataW.trod_lt m _ _ _ hm
  obtain ⟨z2, hR⟩ : ∃ zs, Rd W a2 len2 cap2 zs := rd_of_trod h2
  clear hA0 hval0
  refine (walk a0 a1 w0 w1 a2 len2 cap2 z2 W hR).mono fun e W' ⟨he, bel⟩ => ?_
  subst he
  exact ⟨_, rfl, _, _, _, [], _, [], hW', trodAll_mk1 (shut_bool Try.underlying4 _), (trodAll_cons_mk (shut_int Try.underlying23 w0) (trodAll_cons_mk (shut_int Try.underlying23 w1) (trodAll_cons_mk (Below.trod laidOut (by kernel_rfl) (of_decide_eq_true (by kernel_rfl)) k2 bel lt2) trodAll_mk0))), rfl, bel.frame _, fun h => by cases h⟩

end Go.Proofs.Ytephpbbooicfoaa.octetShort

namespace Go.Proofs.Ytephpbbooicfoaa
theorem octetShort_holds : Rows.OctetShortSaid :=
  OpenClaim.holds_of_wide 5 Try.f5 rfl rfl rfl rfl rfl rfl rfl ⟨rfl, rfl, rfl, rfl, rfl⟩ rfl rfl rfl rfl rfl (by kernel_rfl) Try.func5 (by kernel_rfl)
    (of_decide_eq_true (by kernel_rfl)) (by unfold Func.isWrapper; first | (rw [if_pos (by decide +kernel)]; kernel_rfl) | (rw [if_neg (by decide +kernel)]; exact ⟨rfl, rfl⟩))
    (fun os started H enc _ => octetShort.lifted os started H enc)
#print axioms octetShort_holds
end Go.Proofs.Ytephpbbooicfoaa
