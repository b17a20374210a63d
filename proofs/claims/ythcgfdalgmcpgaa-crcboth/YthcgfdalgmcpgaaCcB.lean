/- CrcBoth, walked. -/
import Derived.Test.YthcgfdalgmcpgaaCcW
namespace Go.Proofs.Ythcgfdalgmcpgaa
open Go.RowKit
namespace crcBoth
set_option maxRecDepth 100000 in
set_option maxHeartbeats 1600000 in
theorem walk (s : BitVec 32) (a : Option Addr) (n c : Nat) (xs : List Int) (w : World) (hR : Rd w a n c xs) :
    Calls Try.prog 3 #[.int .u32 (uw s), .slice a n c] w fun e w' => e = .returned (.bool true) ∧ Below w.heap.size w w' := by
  have hF := fun u (h : Rd u a n c xs) => fewR a n c xs u h
  have tk1 : True := trivial
  have tk2 : True := trivial
  have tk3 : True := trivial
  have tk4 : True := trivial
  obtain ⟨X, HX⟩ : ∃ X, Hid (xs.take 1000 = X) := ⟨_, rfl⟩
  simp only [HX.out] at hF
  have HR : Hid (Rd w a n c xs) := hR
  clear hR
  obtain ⟨S, HS⟩ : ∃ S, Hid (uw (more 0#32 X) = S) := ⟨_, rfl⟩
  obtain ⟨M, HM⟩ : ∃ M, Hid (uw (more s X) = M) := ⟨_, rfl⟩
  have c1 := fun u p q r (h : Rd u p q r X) => sum_any p q r X u h
  have c2 := fun u p q r (h : Rd u p q r X) => refSum_any p q r X u h
  have c3 := fun u p q r (h : Rd u p q r X) => more_any s p q r X u h
  have c4 := fun u p q r (h : Rd u p q r X) => refMore_any s p q r X u h
  simp only [HS.out] at c1 c2
  simp only [HM.out] at c3 c4
  go_enter Try.func3, Try.ntmps3
  go_wp2_with (first
    | (go_at_call 8; clear tk1; refine (hF _ HR.out).mono ?_; rintro e w1 ⟨a1, n1, c1', rfl, hn1, hr1, hb1⟩)
    | (go_at_call 7; refine (c1 _ _ _ _ hr1).mono ?_; rintro e w' ⟨rfl, rfl⟩; clear hr1)
    | (go_at_call 8; clear tk2; refine (hF _ (HR.out.carry (Nat.le_refl _) hb1)).mono ?_; rintro e w2 ⟨a2, n2, c2', rfl, hn2, hr2, hb2'⟩; have hb2 := hb1.trans (hb2'.mono hb1.size))
    | (go_at_call 9; refine (c2 _ _ _ _ hr2).mono ?_; rintro e w' ⟨rfl, rfl⟩; clear hr2)
    | (go_at_call 8; clear tk3; refine (hF _ (HR.out.carry (Nat.le_refl _) hb2)).mono ?_; rintro e w3 ⟨a3, n3, c3', rfl, hn3, hr3, hb3'⟩; have hb3 := hb2.trans (hb3'.mono hb2.size))
    | (go_at_call 10; refine (c3 _ _ _ _ hr3).mono ?_; rintro e w' ⟨rfl, rfl⟩; clear hr3)
    | (go_at_call 8; clear tk4; refine (hF _ (HR.out.carry (Nat.le_refl _) hb3)).mono ?_; rintro e w4 ⟨a4, n4, c4', rfl, hn4, hr4, hb4'⟩; have hb4 := hb3.trans (hb4'.mono hb3.size))
    | (go_at_call 11; refine (c4 _ _ _ _ hr4).mono ?_; rintro e w' ⟨rfl, rfl⟩; clear hr4)
    | (go_at_call 12; refine (wakes_any _).mono ?_; rintro e w5 ⟨rfl, hb5⟩))
  go_ret
  exact ⟨rfl, hb4.trans (hb5.mono hb4.size)⟩
end crcBoth
end Go.Proofs.Ythcgfdalgmcpgaa
