/- OctetOrder: whatever three words are handed in, read as floats, octet.Order stands as the document's order does, turns round, is 0 at itself, agrees with Go's own less and greater, and goes on from float to float; the law returns true and nothing that was there is written. For every input, no condition. -/
import Derived.Test.YtephpbbooicfoaaRows
import Derived.Test.YtephpbbooicfoaaOrderB
import Derived.Test.YtephpbbooicfoaaWakes
import Derived.ProofKit
import Derived.OpenShut
import Derived.ShutString
import Derived.ChangeOld
namespace Go.Proofs.Ytephpbbooicfoaa.octetOrder
open Go.ChangeShapes Go.WideShapes Go.ChangeAt Go.RowKit
open Go.Proofs.Ytephpbbooicfoaa

theorem ordv_three (x y : Nat) : Fl.ordv x y = -1 ∨ Fl.ordv x y = 0 ∨ Fl.ordv x y = 1 := by
  unfold Fl.ordv; split
  · exact .inl rfl
  · split
    · exact .inr (.inr rfl)
    · exact .inr (.inl rfl)
theorem ordv_self (x : Nat) : Fl.ordv x x = 0 := by unfold Fl.ordv; rw [if_neg (by omega), if_neg (by omega)]
theorem ordv_turn (x y : Nat) : Fl.ordv y x = -Fl.ordv x y := by
  unfold Fl.ordv
  rcases Nat.lt_trichotomy (Fl.key x) (Fl.key y) with h | h | h
  · rw [if_neg (by omega), if_pos h, if_pos h]; rfl
  · rw [if_neg (by omega), if_neg (by omega), if_neg (by omega), if_neg (by omega)]; rfl
  · rw [if_pos h, if_neg (by omega), if_pos h]
theorem ordv_on (x y z : Nat) (h : Fl.ordv x y ≤ 0) (k : Fl.ordv y z ≤ 0) : Fl.ordv x z ≤ 0 := by
  have a : ∀ p q : Nat, Fl.ordv p q ≤ 0 ↔ Fl.key p ≤ Fl.key q := by
    intro p q; unfold Fl.ordv
    constructor
    · intro h; split at h
      · omega
      · split at h
        · omega
        · omega
    · intro h; split
      · omega
      · rw [if_neg (by omega)]; omega
  rw [a] at *; omega
theorem lt_says (x y : Nat) (hx : x < 18446744073709551616) (hy : y < 18446744073709551616) (h : Fl.ordv x y ≠ -1) : (FloatKind.f64.format.order x y == some .lt) = false := by
  rw [f64_lt]
  have : Lt x y = false := by
    cases hl : Lt x y with
    | false => rfl
    | true => exact absurd (ord_lt x y hx hy hl).symm h
  exact this
theorem gt_says (x y : Nat) (hx : x < 18446744073709551616) (hy : y < 18446744073709551616) (h : Fl.ordv x y ≠ 1) : (FloatKind.f64.format.order x y == some .gt) = false := by
  rw [f64_gt]
  have : Lt y x = false := by
    cases hl : Lt y x with
    | false => rfl
    | true => exact absurd (ord_gt x y hx hy hl).symm h
  unfold Lt at this
  cases hn : Fl.nan x <;> cases hm : Fl.nan y <;> rw [hn, hm] at this <;> simp at this ⊢
  exact this

set_option maxHeartbeats 1600000 in
theorem walkN (x y z : Nat) (hx : x < 18446744073709551616) (hy : y < 18446744073709551616) (hz : z < 18446744073709551616) (w : World) :
    Calls Try.prog 4 #[.int .u64 x, .int .u64 y, .int .u64 z] w fun e w' => e = .returned (.bool true) ∧ Below w.heap.size w w' := by
  have hfr := run_from
  have ht := ordv_turn x y
  have hs := ordv_self x
  rcases ordv_three x y with ho | ho | ho
  · have hg := gt_says x y hx hy (by omega)
    have hlt : (FloatKind.f64.format.order x y == some .lt) = true ∨ (FloatKind.f64.format.order x y == some .lt) = false := by cases (FloatKind.f64.format.order x y == some .lt) <;> simp
    rcases ordv_three y z with hoz | hoz | hoz
    · have hxz := ordv_on x y z (by omega) (by omega)
      rcases ordv_three x z with hoxz | hoxz | hoxz
      · rcases hlt with hl | hl
        · go_enter Try.func4, Try.ntmps4
          go_wp2_with (first
            | (go_at_call 18; refine (order_any _ _ _ (by assumption) (by assumption)).mono ?_; rintro e w' ⟨rfl, rfl⟩)
            | (go_at_call 19; refine (refOrder_any _ _ _ (by assumption) (by assumption)).mono ?_; rintro e w' ⟨rfl, rfl⟩)
            | (go_at_call 17; refine (wakes_any _).mono ?_; rintro e w' ⟨rfl, hb⟩))
          go_ret
          exact ⟨rfl, hb⟩
        · go_enter Try.func4, Try.ntmps4
          go_wp2_with (first
            | (go_at_call 18; refine (order_any _ _ _ (by assumption) (by assumption)).mono ?_; rintro e w' ⟨rfl, rfl⟩)
            | (go_at_call 19; refine (refOrder_any _ _ _ (by assumption) (by assumption)).mono ?_; rintro e w' ⟨rfl, rfl⟩)
            | (go_at_call 17; refine (wakes_any _).mono ?_; rintro e w' ⟨rfl, hb⟩))
          go_ret
          exact ⟨rfl, hb⟩
      · rcases hlt with hl | hl
        · go_enter Try.func4, Try.ntmps4
          go_wp2_with (first
            | (go_at_call 18; refine (order_any _ _ _ (by assumption) (by assumption)).mono ?_; rintro e w' ⟨rfl, rfl⟩)
            | (go_at_call 19; refine (refOrder_any _ _ _ (by assumption) (by assumption)).mono ?_; rintro e w' ⟨rfl, rfl⟩)
            | (go_at_call 17; refine (wakes_any _).mono ?_; rintro e w' ⟨rfl, hb⟩))
          go_ret
          exact ⟨rfl, hb⟩
        · go_enter Try.func4, Try.ntmps4
          go_wp2_with (first
            | (go_at_call 18; refine (order_any _ _ _ (by assumption) (by assumption)).mono ?_; rintro e w' ⟨rfl, rfl⟩)
            | (go_at_call 19; refine (refOrder_any _ _ _ (by assumption) (by assumption)).mono ?_; rintro e w' ⟨rfl, rfl⟩)
            | (go_at_call 17; refine (wakes_any _).mono ?_; rintro e w' ⟨rfl, hb⟩))
          go_ret
          exact ⟨rfl, hb⟩
      · omega
    · have hxz := ordv_on x y z (by omega) (by omega)
      rcases ordv_three x z with hoxz | hoxz | hoxz
      · rcases hlt with hl | hl
        · go_enter Try.func4, Try.ntmps4
          go_wp2_with (first
            | (go_at_call 18; refine (order_any _ _ _ (by assumption) (by assumption)).mono ?_; rintro e w' ⟨rfl, rfl⟩)
            | (go_at_call 19; refine (refOrder_any _ _ _ (by assumption) (by assumption)).mono ?_; rintro e w' ⟨rfl, rfl⟩)
            | (go_at_call 17; refine (wakes_any _).mono ?_; rintro e w' ⟨rfl, hb⟩))
          go_ret
          exact ⟨rfl, hb⟩
        · go_enter Try.func4, Try.ntmps4
          go_wp2_with (first
            | (go_at_call 18; refine (order_any _ _ _ (by assumption) (by assumption)).mono ?_; rintro e w' ⟨rfl, rfl⟩)
            | (go_at_call 19; refine (refOrder_any _ _ _ (by assumption) (by assumption)).mono ?_; rintro e w' ⟨rfl, rfl⟩)
            | (go_at_call 17; refine (wakes_any _).mono ?_; rintro e w' ⟨rfl, hb⟩))
          go_ret
          exact ⟨rfl, hb⟩
      · rcases hlt with hl | hl
        · go_enter Try.func4, Try.ntmps4
          go_wp2_with (first
            | (go_at_call 18; refine (order_any _ _ _ (by assumption) (by assumption)).mono ?_; rintro e w' ⟨rfl, rfl⟩)
            | (go_at_call 19; refine (refOrder_any _ _ _ (by assumption) (by assumption)).mono ?_; rintro e w' ⟨rfl, rfl⟩)
            | (go_at_call 17; refine (wakes_any _).mono ?_; rintro e w' ⟨rfl, hb⟩))
          go_ret
          exact ⟨rfl, hb⟩
        · go_enter Try.func4, Try.ntmps4
          go_wp2_with (first
            | (go_at_call 18; refine (order_any _ _ _ (by assumption) (by assumption)).mono ?_; rintro e w' ⟨rfl, rfl⟩)
            | (go_at_call 19; refine (refOrder_any _ _ _ (by assumption) (by assumption)).mono ?_; rintro e w' ⟨rfl, rfl⟩)
            | (go_at_call 17; refine (wakes_any _).mono ?_; rintro e w' ⟨rfl, hb⟩))
          go_ret
          exact ⟨rfl, hb⟩
      · omega
    · rcases hlt with hl | hl
      · go_enter Try.func4, Try.ntmps4
        go_wp2_with (first
          | (go_at_call 18; refine (order_any _ _ _ (by assumption) (by assumption)).mono ?_; rintro e w' ⟨rfl, rfl⟩)
          | (go_at_call 19; refine (refOrder_any _ _ _ (by assumption) (by assumption)).mono ?_; rintro e w' ⟨rfl, rfl⟩)
          | (go_at_call 17; refine (wakes_any _).mono ?_; rintro e w' ⟨rfl, hb⟩))
        go_ret
        exact ⟨rfl, hb⟩
      · go_enter Try.func4, Try.ntmps4
        go_wp2_with (first
          | (go_at_call 18; refine (order_any _ _ _ (by assumption) (by assumption)).mono ?_; rintro e w' ⟨rfl, rfl⟩)
          | (go_at_call 19; refine (refOrder_any _ _ _ (by assumption) (by assumption)).mono ?_; rintro e w' ⟨rfl, rfl⟩)
          | (go_at_call 17; refine (wakes_any _).mono ?_; rintro e w' ⟨rfl, hb⟩))
        go_ret
        exact ⟨rfl, hb⟩
  · have hg := gt_says x y hx hy (by omega)
    have hl := lt_says x y hx hy (by omega)
    rcases ordv_three y z with hoz | hoz | hoz
    · have hxz := ordv_on x y z (by omega) (by omega)
      rcases ordv_three x z with hoxz | hoxz | hoxz
      · go_enter Try.func4, Try.ntmps4
        go_wp2_with (first
          | (go_at_call 18; refine (order_any _ _ _ (by assumption) (by assumption)).mono ?_; rintro e w' ⟨rfl, rfl⟩)
          | (go_at_call 19; refine (refOrder_any _ _ _ (by assumption) (by assumption)).mono ?_; rintro e w' ⟨rfl, rfl⟩)
          | (go_at_call 17; refine (wakes_any _).mono ?_; rintro e w' ⟨rfl, hb⟩))
        go_ret
        exact ⟨rfl, hb⟩
      · go_enter Try.func4, Try.ntmps4
        go_wp2_with (first
          | (go_at_call 18; refine (order_any _ _ _ (by assumption) (by assumption)).mono ?_; rintro e w' ⟨rfl, rfl⟩)
          | (go_at_call 19; refine (refOrder_any _ _ _ (by assumption) (by assumption)).mono ?_; rintro e w' ⟨rfl, rfl⟩)
          | (go_at_call 17; refine (wakes_any _).mono ?_; rintro e w' ⟨rfl, hb⟩))
        go_ret
        exact ⟨rfl, hb⟩
      · omega
    · have hxz := ordv_on x y z (by omega) (by omega)
      rcases ordv_three x z with hoxz | hoxz | hoxz
      · go_enter Try.func4, Try.ntmps4
        go_wp2_with (first
          | (go_at_call 18; refine (order_any _ _ _ (by assumption) (by assumption)).mono ?_; rintro e w' ⟨rfl, rfl⟩)
          | (go_at_call 19; refine (refOrder_any _ _ _ (by assumption) (by assumption)).mono ?_; rintro e w' ⟨rfl, rfl⟩)
          | (go_at_call 17; refine (wakes_any _).mono ?_; rintro e w' ⟨rfl, hb⟩))
        go_ret
        exact ⟨rfl, hb⟩
      · go_enter Try.func4, Try.ntmps4
        go_wp2_with (first
          | (go_at_call 18; refine (order_any _ _ _ (by assumption) (by assumption)).mono ?_; rintro e w' ⟨rfl, rfl⟩)
          | (go_at_call 19; refine (refOrder_any _ _ _ (by assumption) (by assumption)).mono ?_; rintro e w' ⟨rfl, rfl⟩)
          | (go_at_call 17; refine (wakes_any _).mono ?_; rintro e w' ⟨rfl, hb⟩))
        go_ret
        exact ⟨rfl, hb⟩
      · omega
    · go_enter Try.func4, Try.ntmps4
      go_wp2_with (first
        | (go_at_call 18; refine (order_any _ _ _ (by assumption) (by assumption)).mono ?_; rintro e w' ⟨rfl, rfl⟩)
        | (go_at_call 19; refine (refOrder_any _ _ _ (by assumption) (by assumption)).mono ?_; rintro e w' ⟨rfl, rfl⟩)
        | (go_at_call 17; refine (wakes_any _).mono ?_; rintro e w' ⟨rfl, hb⟩))
      go_ret
      exact ⟨rfl, hb⟩
  · have hl := lt_says x y hx hy (by omega)
    have hgt : (FloatKind.f64.format.order x y == some .gt) = true ∨ (FloatKind.f64.format.order x y == some .gt) = false := by cases (FloatKind.f64.format.order x y == some .gt) <;> simp
    rcases hgt with hg | hg
    · go_enter Try.func4, Try.ntmps4
      go_wp2_with (first
        | (go_at_call 18; refine (order_any _ _ _ (by assumption) (by assumption)).mono ?_; rintro e w' ⟨rfl, rfl⟩)
        | (go_at_call 19; refine (refOrder_any _ _ _ (by assumption) (by assumption)).mono ?_; rintro e w' ⟨rfl, rfl⟩)
        | (go_at_call 17; refine (wakes_any _).mono ?_; rintro e w' ⟨rfl, hb⟩))
      go_ret
      exact ⟨rfl, hb⟩
    · go_enter Try.func4, Try.ntmps4
      go_wp2_with (first
        | (go_at_call 18; refine (order_any _ _ _ (by assumption) (by assumption)).mono ?_; rintro e w' ⟨rfl, rfl⟩)
        | (go_at_call 19; refine (refOrder_any _ _ _ (by assumption) (by assumption)).mono ?_; rintro e w' ⟨rfl, rfl⟩)
        | (go_at_call 17; refine (wakes_any _).mono ?_; rintro e w' ⟨rfl, hb⟩))
      go_ret
      exact ⟨rfl, hb⟩

theorem walk (a0 a1 a2 : Int) (w0 : (Lit.int .u64 a0).wf = true) (w1 : (Lit.int .u64 a1).wf = true) (w2 : (Lit.int .u64 a2).wf = true) (w : World) :
    Calls Try.prog 4 #[.int .u64 a0, .int .u64 a1, .int .u64 a2] w fun e w' => e = .returned (.bool true) ∧ Below w.heap.size w w' := by
  have b0 := bounds_u64 w0
  have b1 := bounds_u64 w1
  have b2 := bounds_u64 w2
  have h := walkN a0.toNat a1.toNat a2.toNat (by omega) (by omega) (by omega) w
  rw [Int.toNat_of_nonneg b0.1, Int.toNat_of_nonneg b1.1, Int.toNat_of_nonneg b2.1] at h
  exact h

theorem own : ownKnob Try.prog.godebug = none := by kernel_rfl

set_option maxRecDepth 100000 in
theorem lifted (os : Os) (started : os.Started) (H : Type) (enc : TypeId × Value → H) :
    ReturnsInHanded {} Try.checked os 4 .any (Rows.octetOrderSpec.pre6 enc Try.prog Try.f4 Rows.octetOrderRow.domain false) (Rows.octetOrderSpec.post enc Try.prog Try.f4 false true false false) := by
  refine returnsInHanded_of_change (C := Try.checked) own started (by kernel_rfl) Try.func4
    (ChangeSpec.witness6 (enc := enc) (C := Try.checked) false ⟨#[], #[.int .u64 0, .int .u64 0, .int .u64 0], []⟩ 8 (by kernel_rfl) (by kernel_rfl) (by kernel_rfl) (by kernel_rfl)) ?_
  intro W base args ds gs before hval0 hW hcnd _
  have hval : ∀ (j : Nat) t v, Try.f4.params[j]? = some t → args[j]? = some v → Value.okWide Try.prog W .any base t v := hval0
  have hW' := hW
  obtain ⟨p, q, hA0, hV, rfl, hfz, hnd⟩ := hW
  have hA : DataW.TrodAll enc Try.prog W 0 (fun _ => true) true Try.f4.params.toList args.toList ds p := hA0
  rw [Try.params4] at hA hval
  obtain ⟨v0, vs0, d0, ds0, p0, q0, hargs, rfl, rfl, h0, r0⟩ := trodAll_cons hA
  obtain ⟨v1, vs1, d1, ds1, p1, q1, rfl, rfl, rfl, h1, r1⟩ := trodAll_cons r0
  obtain ⟨v2, vs2, d2, ds2, p2, q2, rfl, rfl, rfl, h2, r2⟩ := trodAll_cons r1
  obtain ⟨rfl, rfl, rfl⟩ := trodAll_nil r2
  obtain rfl : args = #[v0, v1, v2] := by cases args; simp_all
  obtain ⟨rfl, rfl⟩ := trodVars_none hV
  obtain ⟨a0, rfl, rfl, rfl, w0⟩ := open_int Try.underlying23 (hval 0 23 v0 rfl rfl) h0
  obtain ⟨a1, rfl, rfl, rfl, w1⟩ := open_int Try.underlying23 (hval 1 23 v1 rfl rfl) h1
  obtain ⟨a2, rfl, rfl, rfl, w2⟩ := open_int Try.underlying23 (hval 2 23 v2 rfl rfl) h2
  clear hA0 hval0
  refine (walk a0 a1 a2 w0 w1 w2 W).mono fun e W' ⟨he, bel⟩ => ?_
  subst he
  exact ⟨_, rfl, _, _, _, [], _, [], hW', trodAll_mk1 (shut_bool Try.underlying4 _), (trodAll_cons_mk (shut_int Try.underlying23 w0) (trodAll_cons_mk (shut_int Try.underlying23 w1) (trodAll_cons_mk (shut_int Try.underlying23 w2) trodAll_mk0))), rfl, bel.frame _, fun h => by cases h⟩

end Go.Proofs.Ytephpbbooicfoaa.octetOrder

namespace Go.Proofs.Ytephpbbooicfoaa
theorem octetOrder_holds : Rows.OctetOrderSaid :=
  OpenClaim.holds_of_wide 4 Try.f4 rfl rfl rfl rfl rfl rfl rfl ⟨rfl, rfl, rfl, rfl, rfl⟩ rfl rfl rfl rfl rfl (by kernel_rfl) Try.func4 (by kernel_rfl)
    (of_decide_eq_true (by kernel_rfl)) (by unfold Func.isWrapper; first | (rw [if_pos (by decide +kernel)]; kernel_rfl) | (rw [if_neg (by decide +kernel)]; exact ⟨rfl, rfl⟩))
    (fun os started H enc _ => octetOrder.lifted os started H enc)
#print axioms octetOrder_holds
end Go.Proofs.Ytephpbbooicfoaa
