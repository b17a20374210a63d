/- digest.Sha, Equal; copies. -/
import Derived.Test.YtiidjdedeenijaaDoorDgG
import Derived.Laws.BitsAll
set_option maxRecDepth 100000
namespace Go.Proofs.YtiidjdedeenijaaDoor
open Go.RowKit

theorem shaB_len (ah : Nat) (hs xs : List Int) : (shaB ah hs xs).length = 32 := bo_len _ _
theorem bo_bd (hs : List Int) : ∀ i, Bd (bo hs i)
  | 0 => bd_zeros 32
  | i + 1 => by unfold bo; exact (bo_bd hs i).set _ (by omega) (by omega)
theorem shaB_bd (ah : Nat) (hs xs : List Int) : Bd (shaB ah hs xs) := bo_bd _ _

set_option maxRecDepth 100000 in
set_option maxHeartbeats 800000 in
theorem sha_any (a : Option Addr) (n c : Nat) (xs : List Int) (w : World) (hR : Rd w a n c xs) (hn : n ≤ 1000000000) (hK : Kt w) :
    Calls Tryd.prog 45 #[.slice a n c] w fun e w' => e = .returned (.agg (ic .u8 (sha xs)).toArray) ∧ Below w.heap.size w w' := by
  have hi45 := (size_of Tryd.u45)
  have hi23 := (size_of Tryd.u23).2
  have hl := shaB_len 0 h0s xs
  go_enter Tryd.func45, Tryd.ntmps45
  go_wp2_with (first
    | (refine wp_alloc_ar rfl 26 rfl .u8 (List.replicate 32 0) 32 Tryd.z23 ?_; intro g1 w1 A1 hg1 hb1)
    | (refine wpList_load_mid rfl 117 (.global 2) rfl _ 0 rfl (ic .u32 h0s) _ (hK.below (Nat.le_refl _) hb1).load hi45.1 rfl hi45.2 ?_)
    | (go_at_call 70; refine (shaBehind_any h0s 0 a n c xs _ rfl (by omega) (hR.carry (Nat.le_refl _) hb1) hn (hK.below (Nat.le_refl _) hb1)).mono ?_; rintro e w2 ⟨rfl, hb2⟩)
    | (refine wp_store_ar rfl 26 (.tmp 2) (.tmp 5) rfl g1 rfl .u8 (shaB 0 h0s xs) rfl 26 _ (A1.below hb2 A1.lt) (by rw [hl]; rfl) (by rw [hl]; exact hi23) ?_; intro w3 A3 hk3 hs3))
  refine bodyPost_ret (v := .agg (ic .u8 (sha xs)).toArray) (ar_results rfl _ _ g1 26 .u8 _ 5 32 rfl A3 Tryd.u23 hl) rfl ⟨rfl, ?_⟩
  have e2 := hb1.trans (hb2.mono hb1.size)
  exact e2.trans (hk3.below e2.size (fun q hq => by omega))

/-! ### Equal -/
theorem or8_zero {a b : Int} (h1 : 0 ≤ a ∧ a ≤ 255) (h2 : 0 ≤ b ∧ b ≤ 255) : bits .or .u8 a b = 0 ↔ a = 0 ∧ b = 0 := by
  rw [u8_or a b h1.1 (by omega) h2.1 (by omega)]
  have := @Nat.or_eq_zero_iff a.toNat b.toNat
  omega
theorem xor8_zero {a b : Int} (h1 : 0 ≤ a ∧ a ≤ 255) (h2 : 0 ≤ b ∧ b ≤ 255) : bits .xor .u8 a b = 0 ↔ a = b := by
  rw [u8_xor a b h1.1 (by omega) h2.1 (by omega)]
  have h : a.toNat ^^^ b.toNat = 0 ↔ a.toNat = b.toNat := by
    constructor
    · intro h
      have := congrArg (· ^^^ b.toNat) h
      simpa [Nat.xor_assoc] using this
    · intro h; rw [h, Nat.xor_self]
  omega
theorem take_snocI (xs : List Int) (k : Nat) (h : k < xs.length) : xs.take (k + 1) = xs.take k ++ [xs.getD k 0] := by
  rw [List.take_succ_eq_append_getElem h]; simp [List.getD, h]

end Go.Proofs.YtiidjdedeenijaaDoor
