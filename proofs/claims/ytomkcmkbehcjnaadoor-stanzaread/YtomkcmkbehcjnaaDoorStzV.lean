/- StanzaRead: any bytes are read as the document reads them. -/
import Derived.Test.YtomkcmkbehcjnaaDoorStzU
import Derived.Test.YtomkcmkbehcjnaaDoorStzR
import Derived.Test.YtomkcmkbehcjnaaDoorStzM
namespace Go.Proofs.YtomkcmkbehcjnaaDoor.stanzaRead
open Go.RowKit
open Go.Proofs.YtomkcmkbehcjnaaDoor

set_option maxHeartbeats 1600000 in
set_option maxRecDepth 100000 in
theorem walkN (a : Option Addr) (n c : Nat) (xs : List Int) (w : World) (hR : Rd w a n c xs) (hL : Lays w) :
    Calls Tryd.prog 4 #[.slice a n c] w fun e w' => e = .returned (.bool true) ∧ Below w.heap.size w w' := by
  have hsf := run_store_float
  have cA := twinR a n c xs 5000 w hR (by omega)
  have hX : (xs.take 5000).length ≤ 5000 := by rw [List.length_take]; omega
  generalize xs.take 5000 = X at cA hX
  have tok : True := trivial
  have HB : Hid (∀ (a1 : Option Addr) (n1 c1 : Nat) (w1 : World), Rd w1 a1 n1 c1 X → Calls Tryd.prog 15 #[.slice a1 n1 c1, .int .i64 5000] w1 fun e w' => ∃ a' n' c', e = .returned (.slice a' n' c') ∧ n' ≤ 5000 ∧ Rd w' a' n' c' X ∧ Below w1.heap.size w1 w') := fun a1 n1 c1 w1 h1 => by
    have := twinR a1 n1 c1 X 5000 w1 h1 (by omega)
    rwa [List.take_of_length_le hX] at this
  have HC : Hid (∀ (a1 : Option Addr) (n1 c1 : Nat) (w1 : World), Rd w1 a1 n1 c1 X → n1 ≤ 5000 → Lays w1 → Calls Tryd.prog 16 #[.slice a1 n1 c1] w1 (AnsR (rdSt X) w1)) := fun a1 n1 c1 w1 h1 h2 h3 => read_any a1 n1 c1 X w1 h1 (by omega) h3
  have HD : Hid (∀ (a1 : Option Addr) (n1 c1 : Nat) (w1 : World), Rd w1 a1 n1 c1 X → n1 ≤ 5000 → Calls Tryd.prog 17 #[.slice a1 n1 c1] w1 (AnsRR (rdSt X) w1)) := fun a1 n1 c1 w1 h1 h2 => refRead_any a1 n1 c1 X w1 h1 (by omega)
  generalize rdSt X = p at HC HD
  obtain ⟨K, I, ⟨A, B, T, L, N, F⟩, E⟩ := p
  go_enter Tryd.func4, Tryd.ntmps4
  go_wp2_with (first
    | (go_at_call 15; clear tok; refine cA.mono ?_; rintro e w1 ⟨a1, n1, c1, rfl, hn1, hr1, hb1⟩; have hL1 := hL.carry hb1)
    | (go_at_call 15; refine (HB.out _ _ _ _ hr1).mono ?_; rintro e w2 ⟨a2, n2, c2, rfl, hn2, hr2, hb2⟩; have hL2 := hL1.carry hb2; have hr12 := hr1.carry (Nat.le_refl _) hb2; have hbw2 := hb1.trans (hb2.mono hb1.size))
    | (go_at_call 16; refine (HC.out _ _ _ _ hr2 hn2 hL2).mono ?_; rintro e w3 ⟨la, ln, lc, rfl, hlo, hb3⟩; have hbw3 := hbw2.trans (hb3.mono hbw2.size); have hr13 := hr12.carry (Nat.le_refl _) hb3; have hb4 : Below w3.heap.size w3 (w3.alloc (.cells #[.int .i64 (K : Int), .int .u64 (I : Nat), .string A, .string B, .string T, .slice la ln lc, .int .i64 N, .float .f64 F] 26)) := (Below.refl _ _).alloc (Nat.le_refl _) _; have hr14 := hr13.carry (Nat.le_refl _) hb4; have hz4 := SzAt.new (K := (K : Int)) (I := I) (A := A) (B := B) (T := T) (la := la) (ln := ln) (lc := lc) (N := N) (F := F) w3; have hs4 := hlo.srd.carry hb4; have hlen := hlo.len)
    | (go_at_call 17; refine (HD.out _ _ _ _ hr14 hn1).mono ?_; rintro e w5 ⟨la5, ln5, lc5, rfl, hs5, hb5⟩; have hl5 := hs5.len; have hln5 : ln5 = ln := (by rw [← hl5]; exact hlen); subst hln5; have hz5 := hz4.carry hb5; have hs45 := hs4.carry hb5; have hb6 : Below w5.heap.size w5 (w5.alloc (.cells #[.int .i64 (K : Int), .int .u64 (I : Nat), .string A, .string B, .string T, .slice la5 ln5 lc5, .int .i64 N, .float .f64 F] 26)) := (Below.refl _ _).alloc (Nat.le_refl _) _; obtain ⟨g0, g1, g2, g3, g4, g5, g6, g7⟩ := hz5.carry hb6; have hbw6 := hbw3.trans ((hb4.trans ((hb5.trans (hb6.mono hb5.size)).mono hb4.size)).mono hbw3.size))
    | (go_at_call 18; refine (same_true _ _ _ _ _ _ _ _ _ _ _ _ _ L _ (hs45.carry hb6) (hs5.carry hb6) rfl).mono ?_; rintro e w7 ⟨rfl, hb7⟩; have hbw7 := hbw6.trans (hb7.mono hbw6.size))
    | (go_at_call 14; refine (wakes_any _ (hL.carry hbw7)).mono ?_; rintro e w8 ⟨rfl, hb8⟩))
  go_ret
  exact ⟨rfl, hbw7.trans (hb8.mono hbw7.size)⟩

end Go.Proofs.YtomkcmkbehcjnaaDoor.stanzaRead
