/- ScramReads: the law's walk. -/
import Derived.Test.YtmilcknboaefkaaDoorScV
import Derived.Test.YtmilcknboaefkaaDoorScW
namespace Go.Proofs.YtmilcknboaefkaaDoor
open Go.RowKit Go.Shelf

theorem wake1 : firstE [110, 44, 44, 110, 61, 97, 61, 50, 67, 98, 61, 51, 68, 44, 114, 61, 98] = (⟨[110, 44, 44], [97, 44, 98, 61], [98], [110, 61, 97, 61, 50, 67, 98, 61, 51, 68, 44, 114, 61, 98]⟩, 0) := by kernel_rfl
theorem wake2 : firstE [110, 44, 44, 110, 61, 97] = (noFP, 2) := by kernel_rfl

set_option maxHeartbeats 1000000 in
theorem wakes_any (w : World) (hM : Mx w) (hT : Lib.Utf8Tabs 0 1 w) : Calls Tryd.prog 13 #[] w fun e w' => e = .returned (.bool true) ∧ Below w.heap.size w w' := by
  have hg1 := World.block_lt_of_cell? w _ (hT.1 0 (by omega))
  have hg2 := World.block_lt_of_cell? w _ (hT.2 0 (by omega)).1
  have c1 := first_any [110, 44, 44, 110, 61, 97, 61, 50, 67, 98, 61, 51, 68, 44, 114, 61, 98] w hM hT hg1 hg2
  rw [wake1] at c1
  unfold fcells at c1
  have c2 := fun (u : World) (hb : Below w.heap.size w u) => first_any [110, 44, 44, 110, 61, 97] u (hM.below hb) (tabs_below hT hb) (Nat.lt_of_lt_of_le hg1 hb.size) (Nat.lt_of_lt_of_le hg2 hb.size)
  rw [wake2] at c2
  unfold fcells noFP at c2
  dsimp only at c1 c2
  have HW : Hid (∀ u, Below w.heap.size w u → FAt (u.alloc (.cells #[.string ⟨#[110, 44, 44]⟩, .string ⟨#[97, 44, 98, 61]⟩, .string ⟨#[98]⟩, .string ⟨#[110, 61, 97, 61, 50, 67, 98, 61, 51, 68, 44, 114, 61, 98]⟩] 25)) u.heap.size (.string ⟨#[110, 44, 44]⟩) (.string ⟨#[97, 44, 98, 61]⟩) (.string ⟨#[98]⟩) (.string ⟨#[110, 61, 97, 61, 50, 67, 98, 61, 51, 68, 44, 114, 61, 98]⟩)) := fun u _ => heap_alloc_new u _
  clear hM hT hg1 hg2
  have tk1 : True := trivial
  go_enter Tryd.func13, Tryd.ntmps13
  go_wp2_with (first
    | (clear tk1; go_at_call 4; refine c1.mono ?_; rintro e w1 ⟨rfl, hb1⟩; have hA1 := HW.out w1 hb1; have hb2 := hb1.alloc hb1.size (.cells #[.string ⟨#[110, 44, 44]⟩, .string ⟨#[97, 44, 98, 61]⟩, .string ⟨#[98]⟩, .string ⟨#[110, 61, 97, 61, 50, 67, 98, 61, 51, 68, 44, 114, 61, 98]⟩] 25))
    | (go_at_call 4; refine (c2 _ hb2).mono ?_; rintro e w3 ⟨rfl, hb3⟩; have hA3 := (hA1.below hb3).below ((Below.refl _ _).alloc (Nat.le_refl _) (.cells #[.string ⟨#[]⟩, .string ⟨#[]⟩, .string ⟨#[]⟩, .string ⟨#[]⟩] 25)); have r1 := hA3.c1; have r2 := hA3.c2; have r3 := hA3.c3))
  go_ret
  exact ⟨rfl, (hb2.trans (hb3.mono hb2.size)).alloc (Nat.le_trans hb2.size hb3.size) _⟩

set_option maxHeartbeats 1000000 in
theorem sameFinal_true (f : LP) (a : Option Addr) (n c : Nat) (a' : Option Addr) (n' c' : Nat) (w : World) (hR : Rd w a n c f.pf) (hR' : Rd w a' n' c' f.pf) :
    Calls Tryd.prog 10 #[.agg (lcells f (.slice a n c)), .agg (lcells f (.slice a' n' c'))] w fun e w' => e = .returned (.bool true) ∧ Below w.heap.size w w' := by
  unfold lcells
  have hb : Below w.heap.size w ((w.alloc (.cells #[.string ⟨f.hd.toArray⟩, .string ⟨f.no.toArray⟩, .slice a n c, .string ⟨f.ba.toArray⟩] 35)).alloc (.cells #[.string ⟨f.hd.toArray⟩, .string ⟨f.no.toArray⟩, .slice a' n' c', .string ⟨f.ba.toArray⟩] 35)) := ((Below.refl _ _).alloc (Nat.le_refl _) _).alloc (by simp) _
  have s1 := (hR.carry (Nat.le_refl _) hb).string
  have s2 := (hR'.carry (Nat.le_refl _) hb).string
  go_enter Tryd.func10, Tryd.ntmps10
  go_wp2
  go_ret
  exact ⟨rfl, hb⟩

set_option maxHeartbeats 4000000 in
set_option maxRecDepth 100000 in
theorem scramReads_any (one two user nonce : Tx) (w : World) (h1 : one.length ≤ 9223372036854775807) (h2 : two.length ≤ 9223372036854775807) (h3 : user.length ≤ 9223372036854775807) (h4 : nonce.length ≤ 9223372036854775807) (hM : Mx w) (hT : Lib.Utf8Tabs 0 1 w) :
    Calls Tryd.prog 3 #[.agg #[.string ⟨one.toArray⟩, .string ⟨two.toArray⟩, .string ⟨user.toArray⟩, .string ⟨nonce.toArray⟩]] w fun e w' => e = .returned (.bool true) ∧ Below w.heap.size w w' := by
  have hg1 := World.block_lt_of_cell? w _ (hT.1 0 (by omega))
  have hg2 := World.block_lt_of_cell? w _ (hT.2 0 (by omega)).1
  have k1 := fun w => cutL_any one w h1
  have k2 := fun w => cutL_any two w h2
  have k3 := fun w => cutL_any user w h3
  have k4 := fun w => cutL_any nonce w h4
  have l1 : (one.take 1100).length ≤ 1100 := by rw [List.length_take]; omega
  have l3 : (user.take 1100).length ≤ 1100 := by rw [List.length_take]; omega
  have l4 : (nonce.take 1100).length ≤ 1100 := by rw [List.length_take]; omega
  obtain ⟨A1, hA1⟩ : ∃ A, one.take 1100 = A := ⟨_, rfl⟩
  obtain ⟨A2, hA2⟩ : ∃ A, two.take 1100 = A := ⟨_, rfl⟩
  obtain ⟨A3, hA3⟩ : ∃ A, user.take 1100 = A := ⟨_, rfl⟩
  obtain ⟨A4, hA4⟩ : ∃ A, nonce.take 1100 = A := ⟨_, rfl⟩
  rw [hA1] at k1 l1
  rw [hA2] at k2
  rw [hA3] at k3 l3
  rw [hA4] at k4 l4
  have cF := fun (u : World) (hb : Below w.heap.size w u) => first_any A1 u (hM.below hb) (tabs_below hT hb) (Nat.lt_of_lt_of_le hg1 hb.size) (Nat.lt_of_lt_of_le hg2 hb.size)
  have cRF := fun (u : World) => refFirst_any A1 u
  have cL := fun (u : World) (hb : Below w.heap.size w u) => final_any A2 u (hM.below hb)
  have cRL := fun (u : World) => refFinal_any A2 u
  have cB := fun (u : World) (hb : Below w.heap.size w u) => begin_any A3 A4 u (by omega) (by omega) (hM.below hb) (tabs_below hT hb)
  have cRB := fun (u : World) => refBegin_any A3 A4 u (by omega) (by omega)
  have cW := fun (u : World) (hb : Below w.heap.size w u) => wakes_any u (hM.below hb) (tabs_below hT hb)
  clear hM hT hg1 hg2 hA1 hA2 hA3 hA4 l1 l3 l4
  generalize firstE A1 = p at cF cRF
  generalize lastE A2 = q at cL cRL
  generalize beginE A3 A4 = r at cB cRB
  obtain ⟨f, fn⟩ := p
  obtain ⟨l, ln⟩ := q
  obtain ⟨bt, bn⟩ := r
  have cSF := fun u => sameFirst_true f u
  have cSL := fun u a n c a' n' c' h h' => sameFinal_true l a n c a' n' c' u h h'
  have hrd : ∀ {u u' : World} {v : Value}, New u u' v l.pf → ∃ a c, v = .slice a l.pf.length c ∧ Rd u' a l.pf.length c l.pf := fun h => h.rd
  unfold ToldL at cL
  unfold ToldR at cRL
  unfold ToldT at cB cRB
  unfold fcells at cF cRF cSF
  unfold lcells at cL cRL cSL
  dsimp only at cF cRF cL cRL cB cRB
  have hb0 : Below w.heap.size w (w.alloc (.cells #[.string ⟨one.toArray⟩, .string ⟨two.toArray⟩, .string ⟨user.toArray⟩, .string ⟨nonce.toArray⟩] 23)).drew := below_drew ((Below.refl _ _).alloc (Nat.le_refl _) _)
  have HcF : Hid _ := cF
  have HcRF : Hid _ := cRF
  have HcL : Hid _ := cL
  have HcRL : Hid _ := cRL
  have HcB : Hid _ := cB
  have HcRB : Hid _ := cRB
  have HcW : Hid _ := cW
  have HcSF : Hid _ := cSF
  have HcSL : Hid _ := cSL
  have Hrd : Hid (∀ {u u' : World} {v : Value}, New u u' v l.pf → ∃ a c, v = .slice a l.pf.length c ∧ Rd u' a l.pf.length c l.pf) := hrd
  have Hnf : Hid (∀ u : World, FAt (u.alloc (.cells #[.string ⟨f.hd.toArray⟩, .string ⟨f.us.toArray⟩, .string ⟨f.no.toArray⟩, .string ⟨f.ba.toArray⟩] 25)) u.heap.size (.string ⟨f.hd.toArray⟩) (.string ⟨f.us.toArray⟩) (.string ⟨f.no.toArray⟩) (.string ⟨f.ba.toArray⟩)) := fun u => heap_alloc_new u _
  have Hnl : Hid (∀ (u : World) (v : Value), LAt (u.alloc (.cells #[.string ⟨l.hd.toArray⟩, .string ⟨l.no.toArray⟩, v, .string ⟨l.ba.toArray⟩] 35)) u.heap.size (.string ⟨l.hd.toArray⟩) (.string ⟨l.no.toArray⟩) v (.string ⟨l.ba.toArray⟩)) := fun u v => heap_alloc_new u _
  have Hal : Hid (∀ (u : World) (o : Obj), Below u.heap.size u (u.alloc o)) := fun u o => (Below.refl _ _).alloc (Nat.le_refl _) o
  have Htr : Hid (∀ {u u' : World}, Below w.heap.size w u → Below u.heap.size u u' → Below w.heap.size w u') := fun h1 h2 => h1.trans (h2.mono h1.size)
  obtain ⟨ll, Hll⟩ : ∃ n, Hid (l.pf.length = n) := ⟨_, rfl⟩
  rw [Hll.out] at Hrd
  clear cF cRF cL cRL cB cRB cW cSF cSL hrd h1 h2 h3 h4
  go_enter Tryd.func3, Tryd.ntmps3
  go_wp2
  go_region
  go_wp2_with (first
    | (go_at_call 5; refine (k1 _).mono ?_; rintro e wq ⟨rfl, rfl⟩)
    | (go_at_call 5; refine (k2 _).mono ?_; rintro e wq ⟨rfl, rfl⟩)
    | (go_at_call 5; refine (k3 _).mono ?_; rintro e wq ⟨rfl, rfl⟩)
    | (go_at_call 5; refine (k4 _).mono ?_; rintro e wq ⟨rfl, rfl⟩)
    | (go_at_call 4; refine (HcF.out _ hb0).mono ?_; rintro e W1 ⟨rfl, hb1⟩; have hB1 := Htr.out (Htr.out hb0 hb1) (Hal.out W1 (.cells #[.string ⟨f.hd.toArray⟩, .string ⟨f.us.toArray⟩, .string ⟨f.no.toArray⟩, .string ⟨f.ba.toArray⟩] 25)); have hF1 := Hnf.out W1; clear hb0 hb1)
    | (go_at_call 6; refine (HcRF.out _).mono ?_; rintro e W2 ⟨rfl, hb2⟩; have hB2 := Htr.out (Htr.out hB1 hb2) (Hal.out W2 (.cells #[.string ⟨f.hd.toArray⟩, .string ⟨f.us.toArray⟩, .string ⟨f.no.toArray⟩, .string ⟨f.ba.toArray⟩] 25)); have hF2 := (hF1.below hb2).below (Hal.out W2 (.cells #[.string ⟨f.hd.toArray⟩, .string ⟨f.us.toArray⟩, .string ⟨f.no.toArray⟩, .string ⟨f.ba.toArray⟩] 25)); have c0 := hF2.c0; have c1 := hF2.c1; have c2 := hF2.c2; have c3 := hF2.c3; clear hB1 hF1 hb2 hF2)
    | (go_at_call 7; refine (HcSF.out _).mono ?_; rintro e W3 ⟨rfl, hb3⟩; have hB3 := Htr.out hB2 hb3; clear c0 c1 c2 c3 hB2 hb3)
    | (go_at_call 8; refine (HcL.out _ hB3).mono ?_; rintro e W4 ⟨⟨v, rfl, hnew⟩, hb4⟩; obtain ⟨va, vc, rfl, hRv⟩ := Hrd.out hnew; have hB4 := Htr.out (Htr.out hB3 hb4) (Hal.out W4 (.cells #[.string ⟨l.hd.toArray⟩, .string ⟨l.no.toArray⟩, .slice va ll vc, .string ⟨l.ba.toArray⟩] 35)); have hL4 := Hnl.out W4 (.slice va ll vc); have hRv4 := hRv.carry (Nat.le_refl _) (Hal.out W4 (.cells #[.string ⟨l.hd.toArray⟩, .string ⟨l.no.toArray⟩, .slice va ll vc, .string ⟨l.ba.toArray⟩] 35)); clear hnew hb4 hRv hB3)
    | (go_at_call 9; refine (HcRL.out _).mono ?_; rintro e W5 ⟨⟨a5, n5, c5, rfl, hR5⟩, hb5⟩; have hB5 := Htr.out (Htr.out hB4 hb5) (Hal.out W5 (.cells #[.string ⟨l.hd.toArray⟩, .string ⟨l.no.toArray⟩, .slice a5 n5 c5, .string ⟨l.ba.toArray⟩] 35)); have hL5 := (hL4.below hb5).below (Hal.out W5 (.cells #[.string ⟨l.hd.toArray⟩, .string ⟨l.no.toArray⟩, .slice a5 n5 c5, .string ⟨l.ba.toArray⟩] 35)); have d0 := hL5.c0; have d1 := hL5.c1; have d2 := hL5.c2; have d3 := hL5.c3; have hRv5 := (hRv4.carry (Nat.le_refl _) hb5).carry (Nat.le_refl _) (Hal.out W5 (.cells #[.string ⟨l.hd.toArray⟩, .string ⟨l.no.toArray⟩, .slice a5 n5 c5, .string ⟨l.ba.toArray⟩] 35)); have hR6 := hR5.carry (Nat.le_refl _) (Hal.out W5 (.cells #[.string ⟨l.hd.toArray⟩, .string ⟨l.no.toArray⟩, .slice a5 n5 c5, .string ⟨l.ba.toArray⟩] 35)); clear hL4 hRv4 hR5 hb5 hB4 hL5)
    | (go_at_call 10; refine (HcSL.out _ _ _ _ _ _ _ hRv5 hR6).mono ?_; rintro e W6 ⟨rfl, hb6⟩; have hB6 := Htr.out hB5 hb6; clear d0 d1 d2 d3 hB5 hb6 hRv5 hR6)
    | (go_at_call 11; refine (HcB.out _ hB6).mono ?_; rintro e W7 ⟨rfl, hb7⟩; have hB7 := Htr.out hB6 hb7; clear hB6 hb7)
    | (go_at_call 12; refine (HcRB.out _).mono ?_; rintro e wq ⟨rfl, rfl⟩)
    | (go_at_call 13; refine (HcW.out _ hB7).mono ?_; rintro e W8 ⟨rfl, hb8⟩))
  go_ret
  exact ⟨rfl, Htr.out hB7 hb8⟩
end Go.Proofs.YtmilcknboaefkaaDoor
