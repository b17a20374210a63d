/- Base64Both's walk. -/
import Derived.Test.YtmmjeikmifhekaaB6S
import Derived.Test.YtmmjeikmifhekaaB6W
namespace Go.Proofs.Ytmmjeikmifhekaa.base64Both
open Go.RowKit
open Go.Proofs.Ytmmjeikmifhekaa

set_option maxRecDepth 100000 in
set_option maxHeartbeats 4000000 in
theorem walk (a : Option Addr) (n c : Nat) (xs : List Int) (S : ByteArray) (w : World) (hR : Rd w a n c xs) (hS : S.size ≤ 9223372036854775807) :
    Calls Try.prog 3 #[.slice a n c, .string S] w fun e w' => e = .returned (.bool true) ∧ Below w.heap.size w w' := by
  obtain ⟨X, HX⟩ : ∃ X, Hid ((nums S).take 1000 = X) := ⟨_, rfl⟩
  have bX : Bd X := by rw [← HX.out]; exact (nums_bd S).take _
  have lX : X.length ≤ 1000000 := by rw [← HX.out, List.length_take]; omega
  obtain ⟨E, HE⟩ : ∃ E, Hid (errB (dec X) = E) := ⟨_, rfl⟩
  obtain ⟨G, HG⟩ : ∃ G, Hid (gotB (dec X) = G) := ⟨_, rfl⟩
  have cP := fun u => decodeR X G E u bX lX HG.out HE.out
  have cR := fun u => refDecode_any X u bX lX
  obtain ⟨sX, HsX⟩ : ∃ s, Hid (strOfNums X = s) := ⟨_, rfl⟩
  simp only [HsX.out, HG.out, HE.out] at cP cR
  have HsX2 : Hid (strOfNums ((nums S).take 1000) = sX) := by show _ = _; rw [HX.out]; exact HsX.out
  obtain ⟨P, HP⟩ : ∃ P, Hid (xs.take 1000 = P) := ⟨_, rfl⟩
  have cE := fun u p q s (h : Rd u p q s P) (hq : q ≤ 1000) => encode_any p q s P u h (by omega)
  have cF := fun u p q s (h : Rd u p q s P) (hq : q ≤ 1000) => refEncode_any p q s P u h (by omega)
  obtain ⟨sE, HsE⟩ : ∃ s, Hid (strOfNums (enc P) = s) := ⟨_, rfl⟩
  obtain ⟨sG, HsG⟩ : ∃ s, Hid (strOfNums G = s) := ⟨_, rfl⟩
  simp only [HsE.out] at cE cF
  have t1 : True := trivial
  clear bX lX
  go_enter Try.func3, Try.ntmps3
  go_wp2_with (first
    | (go_at_call 7; refine (text_any S 1000 _ hS (by omega)).mono ?_; rw [HsX2.out]; rintro e w1 ⟨rfl, rfl⟩)
    | (go_at_call 8; refine (cP _).mono ?_; rintro e w2 ⟨a2, n2, c2, rfl, hr2, hN2, hb2⟩; clear hN2)
    | (go_at_call 9; refine (cR _).mono ?_; rintro e w3 ⟨a3, n3, c3, rfl, hr3, hb3⟩; have z3 := hb2.trans (hb3.mono hb2.size); replace hr2 := hr2.carry (Nat.le_refl _) hb3; clear hb3 hb2)
    | (go_at_call 11; clear t1; refine (fewR a n c xs _ (hR.carry (Nat.le_refl _) z3)).mono ?_; rw [HP.out]; rintro e w4 ⟨a4, n4, c4, rfl, hn4, hr4, hb4⟩)
    | (go_at_call 10; refine (cE _ _ _ _ hr4 hn4).mono ?_; rintro e w5 ⟨rfl, hb5⟩; have q5 := hb4.trans (hb5.mono hb4.size); have z5 := z3.trans (q5.mono z3.size); replace hr2 := hr2.carry (Nat.le_refl _) q5; replace hr3 := hr3.carry (Nat.le_refl _) q5; clear hb4 hb5 q5 z3 hr4)
    | (go_at_call 11; refine (fewR a n c xs _ (hR.carry (Nat.le_refl _) z5)).mono ?_; rw [HP.out]; rintro e w6 ⟨a6, n6, c6, rfl, hn6, hr6, hb6⟩)
    | (go_at_call 12; refine (cF _ _ _ _ hr6 hn6).mono ?_; rintro e w7 ⟨rfl, hb7⟩; have q7 := hb6.trans (hb7.mono hb6.size); have z7 := z5.trans (q7.mono z5.size); have hcv2 := (hr2.carry (Nat.le_refl _) q7).string; have hcv3 := (hr3.carry (Nat.le_refl _) q7).string; rw [HsG.out] at hcv2 hcv3; clear hb6 hb7 q7 z5 hr6)
    | (go_at_call 13; refine (wakes_any _).mono ?_; rintro e w8 ⟨rfl, hb8⟩))
  go_ret
  exact ⟨rfl, z7.trans (hb8.mono z7.size)⟩
end Go.Proofs.Ytmmjeikmifhekaa.base64Both
