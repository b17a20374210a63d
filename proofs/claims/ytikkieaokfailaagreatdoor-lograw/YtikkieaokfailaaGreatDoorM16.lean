/- Texts of one seat, one behind the other: SdP, SdQ, SdM, SdR, SdX, SrX. -/
import Derived.Test.YtikkieaokfailaaGreatDoorM13
import Derived.Test.YtikkieaokfailaaGreatDoorM14
import Derived.Test.YtikkieaokfailaaGreatDoorM15
import Derived.Test.YtikkieaokfailaaGreatDoorM11
namespace Go.Proofs.YtikkieaokfailaaGreatDoor
open Go.RowKit Go.Joins
def Two (sb d rd ob : Nat) (pl pr : Value) (xs : Array Value) (w : World) : Prop := w.heap[sb]? = some (.cells #[.pointer (some ⟨d, 0, none⟩), pl, .pointer (some ⟨rd, 0, none⟩), pr] 51 (0, 0)) ∧ w.heap[ob]? = some (.cells xs 33 (0, 0))
section
variable {sb d rd ob : Nat} {pl pr : Value} {xs : Array Value} {w : World}
theorem Two.s0 (h : Two sb d rd ob pl pr xs w) : w.cell? ⟨sb, 0, none⟩ = some (.pointer (some ⟨d, 0, none⟩)) := by rw [cell_of_block h.1]; rfl
theorem Two.s1 (h : Two sb d rd ob pl pr xs w) : w.cell? ⟨sb, 1, none⟩ = some pl := by rw [cell_of_block h.1]; rfl
theorem Two.s2 (h : Two sb d rd ob pl pr xs w) : w.cell? ⟨sb, 2, none⟩ = some (.pointer (some ⟨rd, 0, none⟩)) := by rw [cell_of_block h.1]; rfl
theorem Two.s3 (h : Two sb d rd ob pl pr xs w) : w.cell? ⟨sb, 3, none⟩ = some pr := by rw [cell_of_block h.1]; rfl
theorem Two.o (h : Two sb d rd ob pl pr xs w) (i : Nat) : w.cell? ⟨ob, i, none⟩ = xs[i]? := cell_of_block h.2 i
theorem Sw.two {B : Nat} {o o' : Option Lg} {k k' : Dk} (h : Sw B w sb d rd ob (.cells xs 33) pl pr o k o' k') : Two sb d rd ob pl pr xs w := ⟨h.blk, h.xb⟩
end
theorem rcommitL_any (w : World) (G H : Nat → Prop) (rl rd : Nat) (l : Lg) (k : Dk) (h : RLogAt w G H rl rd l k) (hg : l.ch.g < 18446744073709551616) (hi : l.ch.cnt ≤ 9223372036854775807) (hst : k.steps < 1000000) :
  Calls Tryz.prog 41 #[.pointer (some ⟨rl, 0, none⟩)] w fun e w' => e = .returned (.int .i64 ((commitL l k).1 : Int)) ∧ Rgp w G H rl rd (commitL l k).2.1 (commitL l k).2.2 w' := by
 obtain ⟨v, hD, hRc⟩ := h.ex
 refine (rcommit_any w G rl rd l.most v l.ch l.dn k hD hg hi hst).mono ?_
 rintro e w' ⟨rfl, G', a1, a2, a3⟩
 have nS : ∀ i, H i → ¬ (G i ∨ i = rl) := fun i hi k => k.elim (h.hf i hi) (fun e => h.hl (by rw [← e]; exact hi))
 refine ⟨rfl, G', H, ⟨⟨v, a1, hRc.keep a2 nS (fun _ h => h)⟩, fun i hi hg' => ?_, h.hl, fun i hi => Nat.lt_of_lt_of_le (h.lt i hi) a2.size⟩, a2.mono (fun i k => k.imp id Or.inr), a3, fun i hi => Or.inl hi⟩
 rcases a3 i hg' with e | e
 ·exact h.hf i hi e
 ·have := h.lt i hi; omega
theorem RcA.sl {w : World} {A : Nat → Prop} {v : Value} {rs : List (List Int)} (h : RcA w A v rs) : ∃ a c, v = .slice a rs.length c := by
 obtain ⟨⟨vs, ov, hvs⟩, _⟩ := h
 obtain ⟨a, c, e⟩ := own_sl ov
 exact ⟨a, c, e⟩
theorem Rp.from {w0 w w' : World} {G : Nat → Prop} {rd : Nat} {k' : Dk} (hb : Below w0.heap.size w0 w) (h : Rp w G rd k' w') : Rp w0 G rd k' w' := by
 obtain ⟨G', h1, h2, h3⟩ := h
 exact ⟨G', h1, (Keep.ofBelow hb).trans h2, fun i hi => (h3 i hi).imp id (fun h => Nat.le_trans hb.size h)⟩
set_option maxRecDepth 100000 in
set_option maxHeartbeats 4000000 in
theorem plays_fuse (B : Nat) (w : World) (sb d rd : Nat) (o : Option Lg) (k : Dk) (h : Sd B w sb d rd o k) (ar : Option Addr) (nr cr : Nat) (al : Option Addr) (nl cl : Nat) (Nn : Int) (ak : Option Addr) (nk ck : Nat) (most : Int) (hN : Nn ≤ 9223372036854775807) :
  Calls Tryz.prog 12 #[.pointer (some ⟨sb, 0, none⟩), .agg #[.int .i64 6, .slice ar nr cr, .slice al nl cl, .int .i64 Nn, .slice ak nk ck], .int .i64 most] w fun e w' => e = .returned (.bool true) ∧ Sd B w' sb d rd o (fuseK k Nn).2 ∧ Below B w w' := by
 have hsz : B ≤ w.heap.size := by have := h.sn; obtain ⟨P, R, pl, pr, hb, _⟩ := h.ex; have := (Array.getElem?_eq_some_iff.1 hb).1; omega
 obtain ⟨pl, pr, hblk, hS⟩ := h.sw (.cells #[.int .i64 6, .slice ar nr cr, .slice al nl cl, .int .i64 Nn, .slice ak nk ck] 33)
 have hb0 : Below B w (w.alloc (.cells #[.int .i64 6, .slice ar nr cr, .slice al nl cl, .int .i64 Nn, .slice ak nk ck] 33)) := (Below.refl _ _).alloc hsz _
 go_enter Tryz.func12, Tryz.ntmps12
 go_upto_region 5 with fail
 refine wp_region_lx (Two sb d rd w.heap.size pl pr #[.int .i64 6, .slice ar nr cr, .slice al nl cl, .int .i64 Nn, .slice ak nk ck]) [] 16 (by kernel_rfl) (by kernel_rfl) ?_
 have hS1 := hS.below ((Below.refl _ _).drew)
 have hb1 := hb0.drew
 clear hS hb0
 generalize World.drew _ = W at hS1 hb1 ⊢
 have HS := hS1.two
 refine lx_r 0 _ HS ?_; simp only [lxa, lxb, lxc]
 refine lx_r 1 _ HS ?_; simp only [lxa, lxb, lxc]
 refine lx_r 2 _ HS ?_; simp only [lxa, lxb, lxc]
 refine lx_r 3 (.pointer (some ⟨d, 0, none⟩)) HS ?_ (hv := fun w' hS => by have z0 := hS.s0; first | (go_simp; rfl) | go_simp); simp only [lxa, lxb, lxc]
 refine lx_r 4 _ HS ?_; simp only [lxa, lxb, lxc]
 refine lx_r 5 (.int .i64 Nn) HS ?_ (hv := fun w' hS => by have z0 := hS.o 3; change _ = some _ at z0; first | (go_simp; rfl) | go_simp); simp only [lxa, lxb, lxc]
 refine lx_r 7 _ HS ?_; simp only [lxa, lxb, lxc]
 refine lx_r 8 _ HS ?_; simp only [lxa, lxb, lxc]
 refine lx_r 9 _ HS ?_; simp only [lxa, lxb, lxc]
 refine lx_r 10 (.pointer (some ⟨rd, 0, none⟩)) HS ?_ (hv := fun w' hS => by have z0 := hS.s2; first | (go_simp; rfl) | go_simp); simp only [lxa, lxb, lxc]
 refine lx_r 11 _ HS ?_; simp only [lxa, lxb, lxc]
 refine lx_r 12 (.int .i64 Nn) HS ?_ (hv := fun w' hS => by have z0 := hS.o 3; change _ = some _ at z0; first | (go_simp; rfl) | go_simp); simp only [lxa, lxb, lxc]
 obtain ⟨F, _, hD, _, go1⟩ := hS1.disk
 refine lx_one 6 (by kernel_rfl) (stepT_call 21 ?cA6c rfl rfl rfl ?dA6d ?_)
 case dA6d => first | (go_simp; rfl) | go_simp
 refine (fuse_any d F k Nn hN W hD).mono ?_
 rintro e w1 ⟨rfl, hp1⟩
 obtain ⟨hS2, hb2⟩ := go1 _ _ hp1
 refine ⟨_, rfl, fun _ => hS2.two, ?_⟩
 simp only [lxa, lxb, lxc]
 obtain ⟨G, _, hR, _, go2⟩ := hS2.rdisk
 refine lx_one 13 (by kernel_rfl) (stepT_call 39 ?cA13c rfl rfl rfl ?dA13d ?_)
 case dA13d => first | (go_simp; rfl) | go_simp
 refine (refFuse_any rd G k Nn hN w1 hR).mono ?_
 rintro e w2 ⟨rfl, hp2⟩
 obtain ⟨hZ, hb3⟩ := go2 _ _ hp2
 refine ⟨_, rfl, fun _ => hZ.two, ?_⟩
 simp only [lxa, lxb, lxc]
 have hbel := (hb1.trans hb2).trans hb3
 clear hS1 hS2 go1 go2 hD hR hp1 hp2
 generalize (fuseK k Nn).1 = en
 have hT := hZ.two
 have hfin := hZ.sd
 refine lx_one 14 (by kernel_rfl) (stepT_val (w' := w2) (.bool true) rfl rfl rfl ?yA14y (fun _ => hT) ?_)
 case yA14y => first | (go_simp; rfl) | (go_simp; done)
 simp only [lxa, lxb, lxc]
 refine lx_one 15 (by kernel_rfl) (stepT_val (w' := w2) (.bool true) rfl rfl rfl ?yA15y (fun _ => hT) ?_)
 case yA15y => first | (go_simp; rfl) | (go_simp; done)
 simp only [lxa, lxb, lxc]
 refine lx_nil (by kernel_rfl) ?_
 go_wp2
 go_ret
 exact ⟨rfl, hfin, hbel⟩
set_option maxRecDepth 100000 in
set_option maxHeartbeats 4000000 in
theorem plays_commit (B : Nat) (w : World) (sb d rd : Nat) (l : Lg) (k : Dk) (h : Sd B w sb d rd (some l) k) (ar : Option Addr) (nr cr : Nat) (al : Option Addr) (nl cl : Nat) (Nn : Int) (ak : Option Addr) (nk ck : Nat) (most : Int) (hok : l.Ok) (hst : k.steps < 900000) (hfl : k.fs.length < 900000) :
  Calls Tryz.prog 12 #[.pointer (some ⟨sb, 0, none⟩), .agg #[.int .i64 2, .slice ar nr cr, .slice al nl cl, .int .i64 Nn, .slice ak nk ck], .int .i64 most] w fun e w' => e = .returned (.bool true) ∧ Sd B w' sb d rd (some (commitL l k).2.1) (commitL l k).2.2 ∧ Below B w w' := by
 have hsz : B ≤ w.heap.size := by have := h.sn; obtain ⟨P, R, pl, pr, hb, _⟩ := h.ex; have := (Array.getElem?_eq_some_iff.1 hb).1; omega
 obtain ⟨pl, pr, hblk, hS⟩ := h.sw (.cells #[.int .i64 2, .slice ar nr cr, .slice al nl cl, .int .i64 Nn, .slice ak nk ck] 33)
 have hb0 : Below B w (w.alloc (.cells #[.int .i64 2, .slice ar nr cr, .slice al nl cl, .int .i64 Nn, .slice ak nk ck] 33)) := (Below.refl _ _).alloc hsz _
 obtain ⟨_, _, lb, e1, _⟩ := hS.log
 obtain ⟨_, _, rl, e2, _⟩ := hS.rlog
 subst e1 e2
 have t1 : w.cell? ⟨sb, 1, none⟩ = some (.pointer (some ⟨lb, 0, none⟩)) := by rw [cell_of_block hblk]; rfl
 have t2 := hS.two.s1
 clear hblk
 go_enter Tryz.func12, Tryz.ntmps12
 go_upto_region 16 with fail
 refine wp_region_lx (Two sb d rd w.heap.size (.pointer (some ⟨lb, 0, none⟩)) (.pointer (some ⟨rl, 0, none⟩)) #[.int .i64 2, .slice ar nr cr, .slice al nl cl, .int .i64 Nn, .slice ak nk ck]) [] 12 (by kernel_rfl) (by kernel_rfl) ?_
 have hS1 := hS.below ((Below.refl _ _).drew)
 have hb1 := hb0.drew
 clear hS hb0
 generalize World.drew _ = W at hS1 hb1 ⊢
 have HS := hS1.two
 refine lx_r 0 _ HS ?_; simp only [lxa, lxb, lxc]
 refine lx_r 1 _ HS ?_; simp only [lxa, lxb, lxc]
 refine lx_r 2 _ HS ?_; simp only [lxa, lxb, lxc]
 refine lx_r 3 (.pointer (some ⟨lb, 0, none⟩)) HS ?_ (hv := fun w' hS => by have z0 := hS.s1; first | (go_simp; rfl) | go_simp); simp only [lxa, lxb, lxc]
 refine lx_r 5 _ HS ?_; simp only [lxa, lxb, lxc]
 refine lx_r 6 _ HS ?_; simp only [lxa, lxb, lxc]
 refine lx_r 7 _ HS ?_; simp only [lxa, lxb, lxc]
 refine lx_r 8 (.pointer (some ⟨rl, 0, none⟩)) HS ?_ (hv := fun w' hS => by have z0 := hS.s3; first | (go_simp; rfl) | go_simp); simp only [lxa, lxb, lxc]
 obtain ⟨F, H, lb', e1, hL, _, go1⟩ := hS1.log
 injection e1 with e1; injection e1 with e1; injection e1 with e1; subst e1
 refine lx_one 4 (by kernel_rfl) (stepT_call 23 ?cB4c rfl rfl rfl ?dB4d ?_)
 case dB4d => first | (go_simp; rfl) | go_simp
 refine (scommit_any W F H lb d l k hL hok (by omega) (by omega)).mono ?_
 rintro e w1 ⟨rfl, hp1⟩
 obtain ⟨hS2, hb2⟩ := go1 _ _ _ hp1
 refine ⟨_, rfl, fun _ => hS2.two, ?_⟩
 simp only [lxa, lxb, lxc]
 obtain ⟨G, H2, rl', e2, hRL, _, go2⟩ := hS2.rlog
 injection e2 with e2; injection e2 with e2; injection e2 with e2; subst e2
 refine lx_one 9 (by kernel_rfl) (stepT_call 41 ?cB9c rfl rfl rfl ?dB9d ?_)
 case dB9d => first | (go_simp; rfl) | go_simp
 refine (rcommitL_any w1 G H2 rl rd l k hRL (by have := hok.g; omega) (by have := hok.cnt; omega) (by omega)).mono ?_
 rintro e w2 ⟨rfl, hp2⟩
 obtain ⟨hZ, hb3⟩ := go2 _ _ _ hp2
 refine ⟨_, rfl, fun _ => hZ.two, ?_⟩
 simp only [lxa, lxb, lxc]
 have hbel := (hb1.trans hb2).trans hb3
 clear hS1 hS2 go1 go2 hL hRL hp1 hp2
 generalize (commitL l k).1 = en
 have hT := hZ.two
 have hfin := hZ.sd
 refine lx_one 10 (by kernel_rfl) (stepT_val (w' := w2) (.bool true) rfl rfl rfl ?yB10y (fun _ => hT) ?_)
 case yB10y => first | (go_simp; rfl) | (go_simp; done)
 simp only [lxa, lxb, lxc]
 refine lx_one 11 (by kernel_rfl) (stepT_val (w' := w2) (.bool true) rfl rfl rfl ?yB11y (fun _ => hT) ?_)
 case yB11y => first | (go_simp; rfl) | (go_simp; done)
 simp only [lxa, lxb, lxc]
 refine lx_nil (by kernel_rfl) ?_
 go_wp2
 go_ret
 exact ⟨rfl, hfin, hbel⟩
set_option maxRecDepth 100000 in
set_option maxHeartbeats 4000000 in
theorem plays_append (B : Nat) (w : World) (sb d rd : Nat) (l : Lg) (k : Dk) (h : Sd B w sb d rd (some l) k) (ar : Option Addr) (nr cr : Nat) (al : Option Addr) (nl cl : Nat) (Nn : Int) (ak : Option Addr) (nk ck : Nat) (most : Int) (hok : l.Ok) (hst : k.steps < 900000) (hfl : k.fs.length < 900000) (hz0 : l.ch.cnt = 0 → l.ch.size = 0) (xs : List Int) (hR : ∀ w0 : World, Below B w w0 → Rd w0 ar nr cr xs) :
  Calls Tryz.prog 12 #[.pointer (some ⟨sb, 0, none⟩), .agg #[.int .i64 1, .slice ar nr cr, .slice al nl cl, .int .i64 Nn, .slice ak nk ck], .int .i64 most] w fun e w' => e = .returned (.bool true) ∧ Sd B w' sb d rd (some (appendT l k (xs.take 200)).2.1) (appendT l k (xs.take 200)).2.2 ∧ Below B w w' := by
 have hsz : B ≤ w.heap.size := by have := h.sn; obtain ⟨P, R, pl, pr, hb, _⟩ := h.ex; have := (Array.getElem?_eq_some_iff.1 hb).1; omega
 obtain ⟨pl, pr, hblk, hS⟩ := h.sw (.cells #[.int .i64 1, .slice ar nr cr, .slice al nl cl, .int .i64 Nn, .slice ak nk ck] 33)
 have hb0 : Below B w (w.alloc (.cells #[.int .i64 1, .slice ar nr cr, .slice al nl cl, .int .i64 Nn, .slice ak nk ck] 33)) := (Below.refl _ _).alloc hsz _
 obtain ⟨_, _, lb, e1, _⟩ := hS.log
 obtain ⟨_, _, rl, e2, _⟩ := hS.rlog
 subst e1 e2
 have t1 : w.cell? ⟨sb, 1, none⟩ = some (.pointer (some ⟨lb, 0, none⟩)) := by rw [cell_of_block hblk]; rfl
 have t2 := hS.two.s1
 clear hblk
 go_enter Tryz.func12, Tryz.ntmps12
 go_upto_region 14 with fail
 refine wp_region_lx (Two sb d rd w.heap.size (.pointer (some ⟨lb, 0, none⟩)) (.pointer (some ⟨rl, 0, none⟩)) #[.int .i64 1, .slice ar nr cr, .slice al nl cl, .int .i64 Nn, .slice ak nk ck]) [] 18 (by kernel_rfl) (by kernel_rfl) ?_
 have hS1 := hS.below ((Below.refl _ _).drew)
 have hb1 := hb0.drew
 clear hS hb0
 generalize World.drew _ = W at hS1 hb1 ⊢
 have HS := hS1.two
 refine lx_r 0 _ HS ?_; simp only [lxa, lxb, lxc]
 refine lx_r 1 _ HS ?_; simp only [lxa, lxb, lxc]
 refine lx_r 2 _ HS ?_; simp only [lxa, lxb, lxc]
 refine lx_r 3 (.pointer (some ⟨lb, 0, none⟩)) HS ?_ (hv := fun w' hS => by have z0 := hS.s1; first | (go_simp; rfl) | go_simp); simp only [lxa, lxb, lxc]
 refine lx_r 4 _ HS ?_; simp only [lxa, lxb, lxc]
 refine lx_r 5 (.slice ar nr cr) HS ?_ (hv := fun w' hS => by have z0 := hS.o 1; change _ = some _ at z0; first | (go_simp; rfl) | go_simp); simp only [lxa, lxb, lxc]
 refine lx_r 8 _ HS ?_; simp only [lxa, lxb, lxc]
 refine lx_r 9 _ HS ?_; simp only [lxa, lxb, lxc]
 refine lx_r 10 _ HS ?_; simp only [lxa, lxb, lxc]
 refine lx_r 11 (.pointer (some ⟨rl, 0, none⟩)) HS ?_ (hv := fun w' hS => by have z0 := hS.s3; first | (go_simp; rfl) | go_simp); simp only [lxa, lxb, lxc]
 refine lx_r 12 _ HS ?_; simp only [lxa, lxb, lxc]
 refine lx_r 13 (.slice ar nr cr) HS ?_ (hv := fun w' hS => by have z0 := hS.o 1; change _ = some _ at z0; first | (go_simp; rfl) | go_simp); simp only [lxa, lxb, lxc]
 obtain ⟨F, H, lb', e1, hL, hlt1, go1⟩ := hS1.log
 injection e1 with e1; injection e1 with e1; injection e1 with e1; subst e1
 refine lx_one 6 (by kernel_rfl) (stepT_call 17 ?cC6c rfl rfl rfl ?dC6d ?_)
 case dC6d => first | (go_simp; rfl) | go_simp
 refine (few200O ar nr cr xs W (hR W hb1)).mono ?_
 rintro e w1 ⟨a1, m1, c1, rfl, hm1, _, hr1, ha1, hf1⟩
 have hS2 := hS1.below hf1
 refine ⟨_, rfl, fun _ => hS2.two, ?_⟩
 simp only [lxa, lxb, lxc]
 refine lx_one 7 (by kernel_rfl) (stepT_call 22 ?cC7c rfl rfl rfl ?dC7d ?_)
 case dC7d => first | (go_simp; rfl) | go_simp
 refine (sappend_any w1 F H lb d l k (hL.below hf1) hok (by omega) (by omega) a1 m1 c1 (xs.take 200) hr1 (fun ad e => ⟨fun hf => by have := (hlt1 _ (Or.inl hf)).2; have := ha1 ad e; omega, fun hf => by have := (hlt1 _ (Or.inr (Or.inr rfl))).2; have := ha1 ad e; omega⟩)).mono ?_
 rintro e w2 ⟨rfl, hp1⟩
 obtain ⟨hS3, hb2⟩ := go1 _ _ _ (Lgp.from hf1 hp1)
 refine ⟨_, rfl, fun _ => hS3.two, ?_⟩
 simp only [lxa, lxb, lxc]
 have hb3 := hb1.trans hb2
 clear hS1 hS2 go1 hL hlt1 hp1 hr1 ha1 hf1
 obtain ⟨G, H2, rl', e2, hRL, hlt2, go2⟩ := hS3.rlog
 injection e2 with e2; injection e2 with e2; injection e2 with e2; subst e2
 refine lx_one 14 (by kernel_rfl) (stepT_call 17 ?cC14c rfl rfl rfl ?dC14d ?_)
 case dC14d => first | (go_simp; rfl) | go_simp
 refine (few200O ar nr cr xs w2 (hR w2 hb3)).mono ?_
 rintro e w3 ⟨a2, m2, c2, rfl, hm2, _, hr2, ha2, hf2⟩
 have hS4 := hS3.below hf2
 refine ⟨_, rfl, fun _ => hS4.two, ?_⟩
 simp only [lxa, lxb, lxc]
 refine lx_one 15 (by kernel_rfl) (stepT_call 33 ?cC15c rfl rfl rfl ?dC15d ?_)
 case dC15d => first | (go_simp; rfl) | go_simp
 refine (rappend_any w3 G H2 rl rd l k (hRL.below hf2) hok hz0 (by omega) (by omega) a2 m2 c2 (xs.take 200) hr2 (fun ad e => ⟨fun hf => by have := (hlt2 _ (Or.inl hf)).2; have := ha2 ad e; omega, fun hf => by have := (hlt2 _ (Or.inr (Or.inr rfl))).2; have := ha2 ad e; omega⟩)).mono ?_
 rintro e w4 ⟨rfl, hp2⟩
 obtain ⟨hZ, hb4⟩ := go2 _ _ _ (Rgp.from hf2 hp2)
 refine ⟨_, rfl, fun _ => hZ.two, ?_⟩
 simp only [lxa, lxb, lxc]
 have hbel := hb3.trans hb4
 clear hS3 hS4 go2 hRL hlt2 hp2 hr2 ha2 hf2
 generalize (appendT l k (xs.take 200)).1 = en
 have hT := hZ.two
 have hfin := hZ.sd
 refine lx_one 16 (by kernel_rfl) (stepT_val (w' := w4) (.bool true) rfl rfl rfl ?yC16y (fun _ => hT) ?_)
 case yC16y => first | (go_simp; rfl) | (go_simp; done)
 simp only [lxa, lxb, lxc]
 refine lx_one 17 (by kernel_rfl) (stepT_val (w' := w4) (.bool true) rfl rfl rfl ?yC17y (fun _ => hT) ?_)
 case yC17y => first | (go_simp; rfl) | (go_simp; done)
 simp only [lxa, lxb, lxc]
 refine lx_nil (by kernel_rfl) ?_
 go_wp2
 go_ret
 exact ⟨rfl, hfin, hbel⟩
set_option maxRecDepth 100000 in
set_option maxHeartbeats 4000000 in
theorem plays_rebase (B : Nat) (w : World) (sb d rd : Nat) (l : Lg) (k : Dk) (h : Sd B w sb d rd (some l) k) (ar : Option Addr) (nr cr : Nat) (al : Option Addr) (nl cl : Nat) (Nn : Int) (ak : Option Addr) (nk ck : Nat) (most : Int) (hok : l.Ok) (hst : k.steps < 900000) (hfl : k.fs.length < 900000) (hcn : l.ch.cnt ≤ 10000) (hmo : l.most ≤ 1000000000) (ls : List (List Int)) (hR : ∀ w0 : World, Below B w w0 → RRd w0 al nl ls) :
  Calls Tryz.prog 12 #[.pointer (some ⟨sb, 0, none⟩), .agg #[.int .i64 4, .slice ar nr cr, .slice al nl cl, .int .i64 Nn, .slice ak nk ck], .int .i64 most] w fun e w' => e = .returned (.bool true) ∧ Sd B w' sb d rd (some (rebaseT l k (tw ls)).2.1) (rebaseT l k (tw ls)).2.2 ∧ Below B w w' := by
 have hsz : B ≤ w.heap.size := by have := h.sn; obtain ⟨P, R, pl, pr, hb, _⟩ := h.ex; have := (Array.getElem?_eq_some_iff.1 hb).1; omega
 obtain ⟨pl, pr, hblk, hS⟩ := h.sw (.cells #[.int .i64 4, .slice ar nr cr, .slice al nl cl, .int .i64 Nn, .slice ak nk ck] 33)
 have hb0 : Below B w (w.alloc (.cells #[.int .i64 4, .slice ar nr cr, .slice al nl cl, .int .i64 Nn, .slice ak nk ck] 33)) := (Below.refl _ _).alloc hsz _
 obtain ⟨_, _, lb, e1, _⟩ := hS.log
 obtain ⟨_, _, rl, e2, _⟩ := hS.rlog
 subst e1 e2
 have t1 : w.cell? ⟨sb, 1, none⟩ = some (.pointer (some ⟨lb, 0, none⟩)) := by rw [cell_of_block hblk]; rfl
 have t2 := hS.two.s1
 clear hblk
 go_enter Tryz.func12, Tryz.ntmps12
 go_upto_region 23 with fail
 refine wp_region_lx (Two sb d rd w.heap.size (.pointer (some ⟨lb, 0, none⟩)) (.pointer (some ⟨rl, 0, none⟩)) #[.int .i64 4, .slice ar nr cr, .slice al nl cl, .int .i64 Nn, .slice ak nk ck]) [] 18 (by kernel_rfl) (by kernel_rfl) ?_
 have hS1 := hS.below ((Below.refl _ _).drew)
 have hb1 := hb0.drew
 clear hS hb0
 generalize World.drew _ = W at hS1 hb1 ⊢
 have HS := hS1.two
 refine lx_r 0 _ HS ?_; simp only [lxa, lxb, lxc]
 refine lx_r 1 _ HS ?_; simp only [lxa, lxb, lxc]
 refine lx_r 2 _ HS ?_; simp only [lxa, lxb, lxc]
 refine lx_r 3 (.pointer (some ⟨lb, 0, none⟩)) HS ?_ (hv := fun w' hS => by have z0 := hS.s1; first | (go_simp; rfl) | go_simp); simp only [lxa, lxb, lxc]
 refine lx_r 4 _ HS ?_; simp only [lxa, lxb, lxc]
 refine lx_r 5 (.slice al nl cl) HS ?_ (hv := fun w' hS => by have z0 := hS.o 2; change _ = some _ at z0; first | (go_simp; rfl) | go_simp); simp only [lxa, lxb, lxc]
 refine lx_r 8 _ HS ?_; simp only [lxa, lxb, lxc]
 refine lx_r 9 _ HS ?_; simp only [lxa, lxb, lxc]
 refine lx_r 10 _ HS ?_; simp only [lxa, lxb, lxc]
 refine lx_r 11 (.pointer (some ⟨rl, 0, none⟩)) HS ?_ (hv := fun w' hS => by have z0 := hS.s3; first | (go_simp; rfl) | go_simp); simp only [lxa, lxb, lxc]
 refine lx_r 12 _ HS ?_; simp only [lxa, lxb, lxc]
 refine lx_r 13 (.slice al nl cl) HS ?_ (hv := fun w' hS => by have z0 := hS.o 2; change _ = some _ at z0; first | (go_simp; rfl) | go_simp); simp only [lxa, lxb, lxc]
 have htl := tw_len ls
 obtain ⟨F, H, lb', e1, hL, hlt1, go1⟩ := hS1.log
 injection e1 with e1; injection e1 with e1; injection e1 with e1; subst e1
 refine lx_one 6 (by kernel_rfl) (stepT_call 28 ?cE6c rfl rfl rfl ?dE6d ?_)
 case dE6d => first | (go_simp; rfl) | go_simp
 refine (twins_any al nl cl ls W (hR W hb1)).mono ?_
 rintro e w1 ⟨v1, rfl, hA1, hf1⟩
 have hS2 := hS1.below hf1
 refine ⟨_, rfl, fun _ => hS2.two, ?_⟩
 simp only [lxa, lxb, lxc]
 obtain ⟨a1, c1, rfl⟩ := RcA.sl hA1
 have hr1 := hA1.rrd rfl (by omega)
 have hn1 := hA1.rnot (S := fun i => F i ∨ i = lb ∨ w1.heap.size ≤ i) rfl (fun i hi k => by rcases k with e | e | e; have := (hlt1 _ (Or.inl e)).2; omega; have := (hlt1 _ (Or.inr (Or.inr e))).2; omega; omega)
 refine lx_one 7 (by kernel_rfl) (stepT_call 29 ?cE7c rfl rfl rfl ?dE7d ?_)
 case dE7d => first | (go_simp; rfl) | go_simp
 refine (srebase_any w1 F H lb d l k (hL.below hf1) hok.g hcn hmo a1 _ c1 (tw ls) hr1 hn1 (by omega) hst hfl).mono ?_
 rintro e w2 ⟨rfl, hp1⟩
 obtain ⟨hS3, hb2⟩ := go1 _ _ _ (Lgp.from hf1 hp1)
 refine ⟨_, rfl, fun _ => hS3.two, ?_⟩
 simp only [lxa, lxb, lxc]
 have hb3 := hb1.trans hb2
 clear hS1 hS2 go1 hL hlt1 hp1 hr1 hn1 hA1 hf1
 obtain ⟨G, H2, rl', e2, hRL, hlt2, go2⟩ := hS3.rlog
 injection e2 with e2; injection e2 with e2; injection e2 with e2; subst e2
 refine lx_one 14 (by kernel_rfl) (stepT_call 28 ?cE14c rfl rfl rfl ?dE14d ?_)
 case dE14d => first | (go_simp; rfl) | go_simp
 refine (twins_any al nl cl ls w2 (hR w2 hb3)).mono ?_
 rintro e w3 ⟨v2, rfl, hA2, hf2⟩
 have hS4 := hS3.below hf2
 refine ⟨_, rfl, fun _ => hS4.two, ?_⟩
 simp only [lxa, lxb, lxc]
 obtain ⟨a2, c2, rfl⟩ := RcA.sl hA2
 have hr2 := hA2.rrd rfl (by omega)
 have hn2 := hA2.rnot (S := fun i => G i ∨ i = rl) rfl (fun i hi k => by rcases k with e | e; have := (hlt2 _ (Or.inl e)).2; omega; have := (hlt2 _ (Or.inr (Or.inr e))).2; omega)
 refine lx_one 15 (by kernel_rfl) (stepT_call 32 ?cE15c rfl rfl rfl ?dE15d ?_)
 case dE15d => first | (go_simp; rfl) | go_simp
 refine (rrebase_any w3 G H2 rl rd l k (hRL.below hf2) hok.g hcn hmo a2 _ c2 (tw ls) hr2 hn2 (by omega) hst hfl).mono ?_
 rintro e w4 ⟨rfl, hp2⟩
 obtain ⟨hZ, hb4⟩ := go2 _ _ _ (Rgp.from hf2 hp2)
 refine ⟨_, rfl, fun _ => hZ.two, ?_⟩
 simp only [lxa, lxb, lxc]
 have hbel := hb3.trans hb4
 clear hS3 hS4 go2 hRL hlt2 hp2 hr2 hn2 hA2 hf2
 generalize (rebaseT l k (tw ls)).1 = en
 have hT := hZ.two
 have hfin := hZ.sd
 refine lx_one 16 (by kernel_rfl) (stepT_val (w' := w4) (.bool true) rfl rfl rfl ?yE16y (fun _ => hT) ?_)
 case yE16y => first | (go_simp; rfl) | (go_simp; done)
 simp only [lxa, lxb, lxc]
 refine lx_one 17 (by kernel_rfl) (stepT_val (w' := w4) (.bool true) rfl rfl rfl ?yE17y (fun _ => hT) ?_)
 case yE17y => first | (go_simp; rfl) | (go_simp; done)
 simp only [lxa, lxb, lxc]
 refine lx_nil (by kernel_rfl) ?_
 go_wp2
 go_ret
 exact ⟨rfl, hfin, hbel⟩
set_option maxRecDepth 100000 in
set_option maxHeartbeats 4000000 in
theorem plays_restart (B : Nat) (w : World) (sb d rd : Nat) (o : Option Lg) (k : Dk) (h : Sd B w sb d rd o k) (ar : Option Addr) (nr cr : Nat) (al : Option Addr) (nl cl : Nat) (Nn : Int) (ak : Option Addr) (nk ck : Nat) (most : Int) (hfl : k.fs.length < 900000) (zs : List Int) (hK : ∀ w0 : World, Below B w w0 → IAr w0 ak nk ck zs) (hr1 : (restK k (zs.take 30)).fs.length ≤ 2500) (hr2 : (restK k (zs.take 30)).steps < 800000) (hro : k.room ≤ 900000) :
  Calls Tryz.prog 12 #[.pointer (some ⟨sb, 0, none⟩), .agg #[.int .i64 7, .slice ar nr cr, .slice al nl cl, .int .i64 Nn, .slice ak nk ck], .int .i64 most] w fun e w' => e = .returned (.bool true) ∧ Sd B w' sb d rd (opI most (restK k (zs.take 30))).1 (opI most (restK k (zs.take 30))).2 ∧ Below B w w' ∧ (restK k (zs.take 30)).Good := by
 have hsz : B ≤ w.heap.size := by have := h.sn; obtain ⟨P, R, pl, pr, hb, _⟩ := h.ex; have := (Array.getElem?_eq_some_iff.1 hb).1; omega
 obtain ⟨pl, pr, hblk, hS⟩ := h.sw (.cells #[.int .i64 7, .slice ar nr cr, .slice al nl cl, .int .i64 Nn, .slice ak nk ck] 33)
 have hb0 : Below B w (w.alloc (.cells #[.int .i64 7, .slice ar nr cr, .slice al nl cl, .int .i64 Nn, .slice ak nk ck] 33)) := (Below.refl _ _).alloc hsz _
 go_enter Tryz.func12, Tryz.ntmps12
 go_upto_region 7 with fail
 refine wp_region_lx (Two sb d rd w.heap.size pl pr #[.int .i64 7, .slice ar nr cr, .slice al nl cl, .int .i64 Nn, .slice ak nk ck]) [] 8 (by kernel_rfl) (by kernel_rfl) ?_
 have hS1 := hS.below ((Below.refl _ _).drew)
 have hb1 := hb0.drew
 clear hS hb0
 generalize World.drew _ = W at hS1 hb1 ⊢
 have HS := hS1.two
 refine lx_r 0 _ HS ?_; simp only [lxa, lxb, lxc]
 refine lx_r 1 _ HS ?_; simp only [lxa, lxb, lxc]
 refine lx_r 2 _ HS ?_; simp only [lxa, lxb, lxc]
 refine lx_r 3 (.pointer (some ⟨d, 0, none⟩)) HS ?_ (hv := fun w' hS => by have z0 := hS.s0; first | (go_simp; rfl) | go_simp); simp only [lxa, lxb, lxc]
 refine lx_r 4 _ HS ?_; simp only [lxa, lxb, lxc]
 refine lx_r 5 (.slice ak nk ck) HS ?_ (hv := fun w' hS => by have z0 := hS.o 4; change _ = some _ at z0; first | (go_simp; rfl) | go_simp); simp only [lxa, lxb, lxc]
 obtain ⟨F, _, hD, hlt1, go1⟩ := hS1.disk
 refine lx_one 6 (by kernel_rfl) (stepT_call 25 ?cF6c rfl rfl rfl ?dF6d ?_)
 case dF6d => first | (go_simp; rfl) | go_simp
 refine (ints_any ak nk ck zs W (hK W hb1)).mono ?_
 rintro e w1 ⟨v1, g1, rfl, hI1, hg1, hf1⟩
 have hS2 := hS1.below hf1
 refine ⟨_, rfl, fun _ => hS2.two, ?_⟩
 simp only [lxa, lxb, lxc]
 refine lx_one 7 (by kernel_rfl) (stepT_call 24 ?cF7c rfl rfl rfl ?dF7d ?_)
 case dF7d => first | (go_simp; rfl) | go_simp
 refine (restart_any d F k g1 v1 (zs.take 30) (by omega) w1 (hD.below hf1) hI1 (fun _ hf => by have := (hlt1 _ hf).2; omega)).mono ?_
 rintro e w2 ⟨rfl, hp1⟩
 obtain ⟨hS3, hb2⟩ := go1 _ _ (Dp.from hf1 hp1)
 refine ⟨_, rfl, fun _ => hS3.two, ?_⟩
 simp only [lxa, lxb, lxc]
 refine lx_nil (by kernel_rfl) ?_
 have hS := hS3
 have hb0 := hb1.trans hb2
 clear hS1 hS2 hS3 go1 hD hlt1 hp1 hI1 hf1 hb1 hb2 HS
 go_upto_region 8 with fail
 refine wp_region_lx (Two sb d rd w.heap.size pl pr #[.int .i64 7, .slice ar nr cr, .slice al nl cl, .int .i64 Nn, .slice ak nk ck]) [] 8 (by kernel_rfl) (by kernel_rfl) ?_
 have hS1 := hS.below ((Below.refl _ _).drew)
 have hb1 := hb0.drew
 clear hS hb0
 generalize w2.drew = W at hS1 hb1 ⊢
 have HS := hS1.two
 refine lx_r 0 _ HS ?_; simp only [lxa, lxb, lxc]
 refine lx_r 1 _ HS ?_; simp only [lxa, lxb, lxc]
 refine lx_r 2 _ HS ?_; simp only [lxa, lxb, lxc]
 refine lx_r 3 (.pointer (some ⟨rd, 0, none⟩)) HS ?_ (hv := fun w' hS => by have z0 := hS.s2; first | (go_simp; rfl) | go_simp); simp only [lxa, lxb, lxc]
 refine lx_r 4 _ HS ?_; simp only [lxa, lxb, lxc]
 refine lx_r 5 (.slice ak nk ck) HS ?_ (hv := fun w' hS => by have z0 := hS.o 4; change _ = some _ at z0; first | (go_simp; rfl) | go_simp); simp only [lxa, lxb, lxc]
 obtain ⟨G, _, hR, hlt2, go2⟩ := hS1.rdisk
 refine lx_one 6 (by kernel_rfl) (stepT_call 25 ?cG6c rfl rfl rfl ?dG6d ?_)
 case dG6d => first | (go_simp; rfl) | go_simp
 refine (ints_any ak nk ck zs W (hK W hb1)).mono ?_
 rintro e w3 ⟨v2, g2, rfl, hI2, hg2, hf2⟩
 have hS4 := hS1.below hf2
 refine ⟨_, rfl, fun _ => hS4.two, ?_⟩
 simp only [lxa, lxb, lxc]
 refine lx_one 7 (by kernel_rfl) (stepT_call 40 ?cG7c rfl rfl rfl ?dG7d ?_)
 case dG7d => first | (go_simp; rfl) | go_simp
 refine (refRestart_any rd G k g2 v2 (zs.take 30) (by omega) w3 (hR.below hf2) hI2 (fun _ hf => by have := (hlt2 _ hf).2; omega)).mono ?_
 rintro e w4 ⟨rfl, hp2⟩
 obtain ⟨hZ, hb4⟩ := go2 _ _ (Rp.from hf2 hp2)
 refine ⟨_, rfl, fun _ => hZ.two, ?_⟩
 simp only [lxa, lxb, lxc]
 refine lx_nil (by kernel_rfl) ?_
 obtain ⟨_, _, hDz, _, _⟩ := hZ.disk
 have hgz := hDz.good
 have hr3 : used (restK k (zs.take 30)).fs ≤ 900000 := Nat.le_trans hgz.used hro
 clear hDz
 have Hgz : Hid ((restK k (zs.take 30)).Good) := hgz
 clear hgz
 have hop := sideOpen_all B sb d rd most w4 o (restK k (zs.take 30)) hZ.sd hr1 hr2 hr3
 have hb5 := hb1.trans hb4
 clear hS1 hS4 hZ go2 hR hlt2 hp2 hI2 hf2
 go_wp2_with (first
  | (go_at_call 19; refine hop.mono ?_; clear hop; rintro e w5 ⟨rfl, hS5, hb6⟩))
 go_ret
 exact ⟨rfl, hS5, hb5.trans hb6, Hgz.out⟩
end Go.Proofs.YtikkieaokfailaaGreatDoor

namespace Go.Proofs.YtikkieaokfailaaGreatDoor
open Go.RowKit Go.Joins
set_option maxRecDepth 100000 in
set_option maxHeartbeats 4000000 in
theorem plays_open (B : Nat) (w : World) (sb d rd : Nat) (o : Option Lg) (k : Dk) (h : Sd B w sb d rd o k) (Do : Int) (ar : Option Addr) (nr cr : Nat) (al : Option Addr) (nl cl : Nat) (Nn : Int) (ak : Option Addr) (nk ck : Nat) (most : Int) (hD : Do = 5) (hr1 : k.fs.length ≤ 2500) (hr2 : k.steps < 800000) (hr3 : used k.fs ≤ 900000) :
  Calls Tryz.prog 12 #[.pointer (some ⟨sb, 0, none⟩), .agg #[.int .i64 Do, .slice ar nr cr, .slice al nl cl, .int .i64 Nn, .slice ak nk ck], .int .i64 most] w fun e w' => e = .returned (.bool true) ∧ Sd B w' sb d rd (opI most k).1 (opI most k).2 ∧ Below B w w' := by
 have hsz : B ≤ w.heap.size := by have := h.sn; obtain ⟨P, R, pl, pr, hb, _⟩ := h.ex; have := (Array.getElem?_eq_some_iff.1 hb).1; omega
 obtain ⟨pl, pr, hblk, hS⟩ := h.sw (.cells #[.int .i64 Do, .slice ar nr cr, .slice al nl cl, .int .i64 Nn, .slice ak nk ck] 33)
 have hb0 : Below B w (w.alloc (.cells #[.int .i64 Do, .slice ar nr cr, .slice al nl cl, .int .i64 Nn, .slice ak nk ck] 33)) := (Below.refl _ _).alloc hsz _
 subst hD
 have hop := sideOpen_all B sb d rd most _ o k hS.sd hr1 hr2 hr3
 clear hS hblk
 go_enter Tryz.func12, Tryz.ntmps12
 go_wp2_with (first
  | (go_at_call 19; refine hop.mono ?_; clear hop; rintro e w5 ⟨rfl, hS5, hb6⟩))
 go_ret
 exact ⟨rfl, hS5, hb0.trans hb6⟩
set_option maxRecDepth 100000 in
set_option maxHeartbeats 4000000 in
theorem plays_none (B : Nat) (w : World) (sb d rd : Nat) (_u : Unit) (k : Dk) (h : Sd B w sb d rd none k) (Do : Int) (ar : Option Addr) (nr cr : Nat) (al : Option Addr) (nl cl : Nat) (Nn : Int) (ak : Option Addr) (nk ck : Nat) (most : Int) (h5 : Do ≠ 5) (h6 : Do ≠ 6) (h7 : Do ≠ 7) :
  Calls Tryz.prog 12 #[.pointer (some ⟨sb, 0, none⟩), .agg #[.int .i64 Do, .slice ar nr cr, .slice al nl cl, .int .i64 Nn, .slice ak nk ck], .int .i64 most] w fun e w' => e = .returned (.bool true) ∧ Sd B w' sb d rd none k ∧ Below B w w' := by
 have hsz : B ≤ w.heap.size := by have := h.sn; obtain ⟨P, R, pl, pr, hb, _⟩ := h.ex; have := (Array.getElem?_eq_some_iff.1 hb).1; omega
 obtain ⟨pl, pr, hblk, hS⟩ := h.sw (.cells #[.int .i64 Do, .slice ar nr cr, .slice al nl cl, .int .i64 Nn, .slice ak nk ck] 33)
 have hb0 : Below B w (w.alloc (.cells #[.int .i64 Do, .slice ar nr cr, .slice al nl cl, .int .i64 Nn, .slice ak nk ck] 33)) := (Below.refl _ _).alloc hsz _
 have hpl : pl = .pointer none := by obtain ⟨P, R, _, hP, _⟩ := hS.ex; obtain ⟨F, _, _, _, e⟩ := hP; exact e
 subst hpl
 have t1 : w.cell? ⟨sb, 1, none⟩ = some (.pointer none) := by rw [cell_of_block hblk]; rfl
 have t2 := hS.two.s1
 have hfin := hS.sd
 clear hS hblk
 have b5 : (Do == 5) = false := by simpa using h5
 have b6 : (Do == 6) = false := by simpa using h6
 have b7 : (Do == 7) = false := by simpa using h7
 go_enter Tryz.func12, Tryz.ntmps12
 go_wp2
 go_ret
 exact ⟨rfl, hfin, hb0⟩
set_option maxRecDepth 100000 in
set_option maxHeartbeats 4000000 in
theorem plays_other (B : Nat) (w : World) (sb d rd : Nat) (l : Lg) (k : Dk) (h : Sd B w sb d rd (some l) k) (Do : Int) (ar : Option Addr) (nr cr : Nat) (al : Option Addr) (nl cl : Nat) (Nn : Int) (ak : Option Addr) (nk ck : Nat) (most : Int) (h1 : Do < 1 ∨ 7 < Do) :
  Calls Tryz.prog 12 #[.pointer (some ⟨sb, 0, none⟩), .agg #[.int .i64 Do, .slice ar nr cr, .slice al nl cl, .int .i64 Nn, .slice ak nk ck], .int .i64 most] w fun e w' => e = .returned (.bool true) ∧ Sd B w' sb d rd (some l) k ∧ Below B w w' := by
 have hsz : B ≤ w.heap.size := by have := h.sn; obtain ⟨P, R, pl, pr, hb, _⟩ := h.ex; have := (Array.getElem?_eq_some_iff.1 hb).1; omega
 obtain ⟨pl, pr, hblk, hS⟩ := h.sw (.cells #[.int .i64 Do, .slice ar nr cr, .slice al nl cl, .int .i64 Nn, .slice ak nk ck] 33)
 have hb0 : Below B w (w.alloc (.cells #[.int .i64 Do, .slice ar nr cr, .slice al nl cl, .int .i64 Nn, .slice ak nk ck] 33)) := (Below.refl _ _).alloc hsz _
 obtain ⟨_, _, lb, e1, _⟩ := hS.log
 subst e1
 have t1 : w.cell? ⟨sb, 1, none⟩ = some (.pointer (some ⟨lb, 0, none⟩)) := by rw [cell_of_block hblk]; rfl
 have t2 := hS.two.s1
 have hfin := hS.sd
 clear hS hblk
 have b1 : (Do == 1) = false := by have : ¬ Do = 1 := (by omega); simpa using this
 have b2 : (Do == 2) = false := by have : ¬ Do = 2 := (by omega); simpa using this
 have b3 : (Do == 3) = false := by have : ¬ Do = 3 := (by omega); simpa using this
 have b4 : (Do == 4) = false := by have : ¬ Do = 4 := (by omega); simpa using this
 have b5 : (Do == 5) = false := by have : ¬ Do = 5 := (by omega); simpa using this
 have b6 : (Do == 6) = false := by have : ¬ Do = 6 := (by omega); simpa using this
 have b7 : (Do == 7) = false := by have : ¬ Do = 7 := (by omega); simpa using this
 clear h1
 go_enter Tryz.func12, Tryz.ntmps12
 go_wp2
 go_ret
 exact ⟨rfl, hfin, hb0⟩
theorem below_drewN' {B : Nat} {w w' : World} (h : Below B w w') (n : Nat) : Below B w (w'.drewN n) := ⟨h.os, h.tape, h.output, h.size, h.block⟩
theorem below_cellS {w w' : World} (hb : Below w.heap.size w w') {p : Addr} {v : Value} (h : w.cell? p = some v) : w'.cell? p = some v := (hb.cell (World.block_lt_of_cell? w _ h)).trans h
set_option maxRecDepth 100000 in
set_option maxHeartbeats 4000000 in
theorem plays_at (B : Nat) (w : World) (sb d rd : Nat) (l : Lg) (k : Dk) (h : Sd B w sb d rd (some l) k) (ar : Option Addr) (nr cr : Nat) (al : Option Addr) (nl cl : Nat) (Nn : Int) (ak : Option Addr) (nk ck : Nat) (most : Int) (hN : -9223372036854775808 ≤ Nn ∧ Nn ≤ 9223372036854775807) (hl2 : ∀ r ∈ l.recs, r.length ≤ 1000000000) (hlr : l.recs.length ≤ 1000000) :
  Calls Tryz.prog 12 #[.pointer (some ⟨sb, 0, none⟩), .agg #[.int .i64 3, .slice ar nr cr, .slice al nl cl, .int .i64 Nn, .slice ak nk ck], .int .i64 most] w fun e w' => e = .returned (.bool true) ∧ Sd B w' sb d rd (some l) k ∧ Below B w w' := by
 have hsz : B ≤ w.heap.size := by have := h.sn; obtain ⟨P, R, pl, pr, hb, _⟩ := h.ex; have := (Array.getElem?_eq_some_iff.1 hb).1; omega
 obtain ⟨pl, pr, hblk, hS⟩ := h.sw (.cells #[.int .i64 3, .slice ar nr cr, .slice al nl cl, .int .i64 Nn, .slice ak nk ck] 33)
 have hb0 : Below B w (w.alloc (.cells #[.int .i64 3, .slice ar nr cr, .slice al nl cl, .int .i64 Nn, .slice ak nk ck] 33)) := (Below.refl _ _).alloc hsz _
 obtain ⟨_, _, lb, e1, _⟩ := hS.log
 obtain ⟨_, _, rl, e2, _⟩ := hS.rlog
 subst e1 e2
 have t1 : w.cell? ⟨sb, 1, none⟩ = some (.pointer (some ⟨lb, 0, none⟩)) := by rw [cell_of_block hblk]; rfl
 have t2 := hS.two.s1
 clear hblk
 go_enter Tryz.func12, Tryz.ntmps12
 go_upto_region 18 with fail
 refine wp_region_lx (Two sb d rd w.heap.size (.pointer (some ⟨lb, 0, none⟩)) (.pointer (some ⟨rl, 0, none⟩)) #[.int .i64 3, .slice ar nr cr, .slice al nl cl, .int .i64 Nn, .slice ak nk ck]) [] 12 (by kernel_rfl) (by kernel_rfl) ?_
 have hS1 := hS.below ((Below.refl _ _).drew)
 have hb1 := hb0.drew
 clear hS hb0
 generalize World.drew _ = W at hS1 hb1 ⊢
 have HS := hS1.two
 refine lx_r 0 _ HS ?_; simp only [lxa, lxb, lxc]
 refine lx_r 1 _ HS ?_; simp only [lxa, lxb, lxc]
 refine lx_r 2 _ HS ?_; simp only [lxa, lxb, lxc]
 refine lx_r 3 (.pointer (some ⟨lb, 0, none⟩)) HS ?_ (hv := fun w' hS => by have z0 := hS.s1; first | (go_simp; rfl) | go_simp); simp only [lxa, lxb, lxc]
 refine lx_r 4 _ HS ?_; simp only [lxa, lxb, lxc]
 refine lx_r 5 (.int .i64 Nn) HS ?_ (hv := fun w' hS => by have z0 := hS.o 3; change _ = some _ at z0; first | (go_simp; rfl) | go_simp); simp only [lxa, lxb, lxc]
 obtain ⟨F, H, lb', e1, hL, _, _⟩ := hS1.log
 injection e1 with e1; injection e1 with e1; injection e1 with e1; subst e1
 refine lx_one 6 (by kernel_rfl) (stepT_call 27 ?cH6c rfl rfl rfl ?dH6d ?_)
 case dH6d => first | (go_simp; rfl) | go_simp
 refine (sat_any W F H lb d l k Nn hN.2 hL hl2).mono ?_
 rintro e w1 ⟨u, rfl, ou, hbr, hf1⟩
 have hS2 := hS1.below hf1
 obtain ⟨a1, k1c, e1, r1⟩ := Rd.ofOwn ou hbr
 subst e1
 refine ⟨_, rfl, fun _ => hS2.two, ?_⟩
 simp only [lxa, lxb, lxc]
 have hb2 := hb1.trans (hf1.mono (by have := hb1.size; omega))
 have hT2 := hS2.two
 clear hS1 hL hb1 ou hf1 HS
 refine lx_r 7 _ hT2 ?_; simp only [lxa, lxb, lxc]
 refine lx_r 8 _ hT2 ?_; simp only [lxa, lxb, lxc]
 refine lx_r 9 _ hT2 ?_; simp only [lxa, lxb, lxc]
 refine lx_one 10 (by kernel_rfl) (stepT_val (w' := w1) (.slice a1 ((atL l Nn).getD []).length k1c) rfl rfl rfl ?yH10y (fun _ => hT2) ?_)
 case yH10y => first | (go_simp; rfl) | (go_simp; done)
 simp only [lxa, lxb, lxc]
 refine lx_one 11 (by kernel_rfl) (stepT_val (w' := w1) (.bool (atL l Nn).isSome) rfl rfl rfl ?yH11y (fun _ => hT2) ?_)
 case yH11y => first | (go_simp; rfl) | (go_simp; done)
 simp only [lxa, lxb, lxc]
 refine lx_nil (by kernel_rfl) ?_
 obtain ⟨G, H2, rl', e2, hRL, _, _⟩ := hS2.rlog
 injection e2 with e2; injection e2 with e2; injection e2 with e2; subst e2
 obtain ⟨v, hDR, hRc⟩ := hRL.ex
 obtain ⟨⟨vs, ov, hvs⟩, _⟩ := hRc
 obtain ⟨aR, cR, eR⟩ := own_sl ov
 subst eR
 have qr := hDR.c3
 have q3 := hT2.s3
 have qo : w1.cell? ⟨w.heap.size, 3, none⟩ = some (.int .i64 Nn) := hT2.o 3
 by_cases n0 : Nn < 0
 ·have hat : atL l Nn = none := by unfold atL; rw [if_pos n0]
  rw [hat] at r1 hbr ⊢
  dsimp only [Option.isSome, Option.getD] at r1 ⊢
  go_upto_region 19 with fail
  go_quiet (fail)
  have hfin := (hS2.below (below_drewN' (Below.refl _ _) nq)).sd
  have hbel := below_drewN' hb2 nq
  go_wp2
  go_ret
  exact ⟨rfl, hfin, hbel⟩
 ·by_cases n1 : Nn < (l.recs.length : Int)
  ·obtain ⟨i, rfl⟩ : ∃ i : Nat, Nn = (i : Int) := ⟨Nn.toNat, by omega⟩
   have hil : i < l.recs.length := by omega
   obtain ⟨r, hr⟩ : ∃ r, l.recs[i]? = some r := ⟨_, List.getElem?_eq_getElem hil⟩
   have hat : atL l (i : Int) = some r := by unfold atL; rw [if_neg (by omega), Int.toNat_natCast]; exact hr
   rw [hat] at r1 hbr ⊢
   dsimp only [Option.isSome, Option.getD] at r1 hbr ⊢
   have n2 : ¬ ((l.recs.length : Int) ≤ (i : Int)) := by omega
   obtain ⟨u2, m1, m2, _⟩ := hvs i r hr
   obtain ⟨a2, k2c, e3, r2⟩ := Rd.ofOwn m2 hbr
   subst e3
   obtain ⟨gR, hgR, cg⟩ : ∃ g, aR = some ⟨g, 0, none⟩ ∧ w1.cell? ⟨g, i, none⟩ = some (.slice a2 r.length k2c) := by
    rcases ov.2 with ⟨_, h9⟩ | ⟨g, cap, cur, h9, _⟩
    ·omega
    ·injection h9 with h9
     have hv2 := ov
     rw [h9] at hv2
     have hc := hv2.cells (g := g) rfl i _ m1
     rw [add_flat, Nat.zero_add] at hc
     exact ⟨g, h9, hc⟩
   subst hgR
   have hqe := nm_eqT (strOfNums r)
   go_upto_region 19 with fail
   go_quiet (fail)
   have hX := below_drewN' (Below.refl w1.heap.size w1) nq
   generalize w1.drewN nq = X0 at hX ⊢
   clear ov hvs hDR m1 m2 hRL
   go_upto_region 21 with fail
   have hX1 := hX.drew
   generalize hXe : X0.drew = X at hX1
   have HS0 : Rd X a1 r.length k1c r ∧ X.cell? ⟨sb, 3, none⟩ = some (.pointer (some ⟨rl, 0, none⟩)) ∧ X.cell? ⟨rl, 3, none⟩ = some (.slice (some ⟨gR, 0, none⟩) l.recs.length cR) ∧ X.cell? ⟨gR, i, none⟩ = some (.slice a2 r.length k2c) ∧ Rd X a2 r.length k2c r ∧ X.cell? ⟨w.heap.size, 3, none⟩ = some (.int .i64 (i : Int)) := ⟨r1.carry (Nat.le_refl _) hX1, below_cellS hX1 q3, below_cellS hX1 qr, below_cellS hX1 cg, r2.carry (Nat.le_refl _) hX1, below_cellS hX1 qo⟩
   refine wp_region_lx (fun w' => Rd w' a1 r.length k1c r ∧ w'.cell? ⟨sb, 3, none⟩ = some (.pointer (some ⟨rl, 0, none⟩)) ∧ w'.cell? ⟨rl, 3, none⟩ = some (.slice (some ⟨gR, 0, none⟩) l.recs.length cR) ∧ w'.cell? ⟨gR, i, none⟩ = some (.slice a2 r.length k2c) ∧ Rd w' a2 r.length k2c r ∧ w'.cell? ⟨w.heap.size, 3, none⟩ = some (.int .i64 (i : Int))) [] 19 (by kernel_rfl) (by kernel_rfl) ?_
   rw [hXe]
   have hfin := (hS2.below hX1).sd
   have hbel := hb2.trans (hX1.mono (by have := hb2.size; omega))
   clear r1 r2 cg q3 qr qo hr hat hbr hS2 hT2 hXe hX hX1
   refine lx_r 0 _ HS0 ?_; simp only [lxa, lxb, lxc]
   refine lx_r 1 _ HS0 ?_; simp only [lxa, lxb, lxc]
   refine lx_r 2 _ HS0 ?_; simp only [lxa, lxb, lxc]
   refine lx_r 3 (.string (strOfNums r)) HS0 ?_ (hv := fun w' hS => by have q := hS.1.string; first | (go_simp; rfl) | go_simp); simp only [lxa, lxb, lxc]
   refine lx_r 4 _ HS0 ?_; simp only [lxa, lxb, lxc]
   refine lx_r 5 _ HS0 ?_; simp only [lxa, lxb, lxc]
   refine lx_r 6 _ HS0 ?_; simp only [lxa, lxb, lxc]
   refine lx_r 7 (.pointer (some ⟨rl, 0, none⟩)) HS0 ?_ (hv := fun w' hS => by have q := hS.2.1; first | (go_simp; rfl) | go_simp); simp only [lxa, lxb, lxc]
   refine lx_r 8 _ HS0 ?_; simp only [lxa, lxb, lxc]
   refine lx_r 9 (.pointer (some ⟨rl, 3, none⟩)) HS0 ?_; simp only [lxa, lxb, lxc]
   refine lx_r 10 (.slice (some ⟨gR, 0, none⟩) l.recs.length cR) HS0 ?_ (hv := fun w' hS => by have q := hS.2.2.1; first | (go_simp; rfl) | go_simp); simp only [lxa, lxb, lxc]
   refine lx_r 11 _ HS0 ?_; simp only [lxa, lxb, lxc]
   refine lx_r 12 (.int .i64 (i : Int)) HS0 ?_ (hv := fun w' hS => by have q := hS.2.2.2.2.2; first | (go_simp; rfl) | go_simp); simp only [lxa, lxb, lxc]
   refine lx_r 13 (.pointer (some ⟨gR, i, none⟩)) HS0 ?_; simp only [lxa, lxb, lxc]
   refine lx_r 14 (.slice a2 r.length k2c) HS0 ?_ (hv := fun w' hS => by have q := hS.2.2.2.1; first | (go_simp; rfl) | go_simp); simp only [lxa, lxb, lxc]
   refine lx_r 15 (.string (strOfNums r)) HS0 ?_ (hv := fun w' hS => by have q := hS.2.2.2.2.1.string; first | (go_simp; rfl) | go_simp); simp only [lxa, lxb, lxc]
   generalize strOfNums r = sr at hqe ⊢
   refine lx_r 16 (.bool true) HS0 ?_ (hv := fun w' hS => by have q := hqe; first | (go_simp; rfl) | go_simp); simp only [lxa, lxb, lxc]
   refine lx_r 17 (.bool true) HS0 ?_; simp only [lxa, lxb, lxc]
   refine lx_one 18 (by kernel_rfl) (stepT_val (w' := X) (.bool true) rfl rfl rfl ?yat (fun _ => HS0) ?_)
   case yat => first | (go_simp; rfl) | (go_simp; done)
   simp only [lxa, lxb, lxc]
   refine lx_nil (by kernel_rfl) ?_
   clear HS0 hqe
   go_wp2
   go_ret
   exact ⟨rfl, hfin, hbel⟩
  ·have hat : atL l Nn = none := by unfold atL; rw [if_neg n0]; exact List.getElem?_eq_none (by omega)
   have n2 : (l.recs.length : Int) ≤ Nn := by omega
   rw [hat] at r1 hbr ⊢
   dsimp only [Option.isSome, Option.getD] at r1 ⊢
   go_upto_region 19 with fail
   go_quiet (fail)
   have hfin := (hS2.below (below_drewN' (Below.refl _ _) nq)).sd
   have hbel := below_drewN' hb2 nq
   go_wp2
   go_ret
   exact ⟨rfl, hfin, hbel⟩
end Go.Proofs.YtikkieaokfailaaGreatDoor

namespace Go.Proofs.YtikkieaokfailaaGreatDoor
open Go.RowKit Go.Joins
def RcM (rs : List (List Int)) : Prop := ∀ r ∈ rs, r.length ≤ 1048576
theorem RcM.app {a b : List (List Int)} (h : RcM a) (h' : RcM b) : RcM (a ++ b) := fun r hr => (List.mem_append.1 hr).elim (h r) (h' r)
theorem RcM.nil : RcM [] := fun r hr => by cases hr
theorem rcm_scan : ∀ (f : Nat) (xs : List Int), RcM (scanF f xs).1
 | 0, _ => RcM.nil
 | f + 1, xs => by
  unfold scanF
  split
  ·exact RcM.nil
  ·cases h : recO xs with
   | none => exact RcM.nil
   | some r =>
    intro y hy
    rcases List.mem_cons.1 hy with e | e
    ·subst e
     unfold recO at h
     split at h
     ·cases h
     ·split at h
      ·cases h
      ·split at h
       ·injection h with h
        subst h
        rw [List.length_take]
        omega
       ·cases h
    ·exact rcm_scan f _ y e
theorem rcm_readSeg {l : Lg} (h : RcM l.recs) (i : Nat) (k : Dk) : RcM (readSegL l i k).2.2.1.recs := by
 unfold readSegL readSegR
 split
 ·exact h
 ·split
  ·exact h.app (rcm_scan _ _)
  ·exact h.app (rcm_scan _ _)
theorem rcm_rd : ∀ (m i : Nat) (l : Lg) (k : Dk), RcM l.recs → RcM (rdSegs m i l k).2.1.recs
 | 0, _, _, _, h => h
 | m + 1, i, l, k, h => by
  have h1 := rcm_readSeg h (i + 1) k
  unfold rdSegs
  split
  ·exact h1
  ·split
   ·exact rcm_rd m (i + 1) _ _ h1
   ·exact h1
theorem rcm_open (most : Nat) (k : Dk) : RcM (openL most k).2.1.recs := by
 unfold openL openR
 split
 ·exact RcM.nil
 ·unfold openR.openC
  split
  ·exact RcM.nil
  ·have h1 := rcm_rd (cleanL ⟨(baseR (readK k sBase)).2, 0, 0, false⟩ false k).2.1.cnt 0 ⟨most, [], (cleanL ⟨(baseR (readK k sBase)).2, 0, 0, false⟩ false k).2.1, (cleanL ⟨(baseR (readK k sBase)).2, 0, 0, false⟩ false k).2.2.1⟩ (cleanL ⟨(baseR (readK k sBase)).2, 0, 0, false⟩ false k).2.2.2 RcM.nil
   unfold openR.openD
   split
   ·exact h1
   ·exact h1
theorem rcm_append {l : Lg} (h : RcM l.recs) (k : Dk) (xs : List Int) (hx : xs.length ≤ 200) : RcM (appendT l k xs).2.1.recs := by
 unfold appendT
 split
 ·exact h
 ·unfold appendL
  dsimp only
  split
  ·refine h.app (fun r hr => ?_)
   rw [List.mem_singleton.1 hr]
   omega
  ·exact h
theorem rcm_rebase {l : Lg} (h : RcM l.recs) (k : Dk) (rs : List (List Int)) (hx : ∀ r ∈ rs, r.length ≤ 200) : RcM (rebaseT l k rs).2.1.recs := by
 unfold rebaseT
 split
 ·exact h
 ·split
  ·exact h
  ·obtain ⟨dn, e | e⟩ := rebase_cases l k rs
   ·rw [e]; exact h
   ·rw [e]; exact fun r hr => by have := hx r hr; omega
end Go.Proofs.YtikkieaokfailaaGreatDoor

namespace Go.Proofs.YtikkieaokfailaaGreatDoor
open Go.RowKit Go.Joins
structure Pk (n : Nat) (o : Option Lg) (k : Dk) : Prop where
 pl : Pl n o k
 rc : ∀ l, o = some l → RcM l.recs
theorem Pk.next {n : Nat} {o : Option Lg} {k : Dk} (h : Pk n o k) : Pk (n + 1) o k := ⟨h.pl.next, h.rc⟩
theorem Pk.open {n : Nat} {o : Option Lg} {k : Dk} (h : Pl n o k) (hn : n ≤ 120) (most : Int) (hg : k.Good) : Pk (n + 1) (opI most k).1 (opI most k).2 := by
 unfold opI
 split
 ·exact ⟨h.nope.next, fun _ e => by cases e⟩
 ·have h1 := h.opens hn most.toNat (by omega) hg
  have h2 := rcm_open most.toNat k
  dsimp only
  unfold opO
  split
  ·exact ⟨h1, fun l e => by injection e with e; subst e; exact h2⟩
  ·exact ⟨h1.nope, fun _ e => by cases e⟩
theorem Sd.good {B : Nat} {w : World} {sb d rd : Nat} {o : Option Lg} {k : Dk} (h : Sd B w sb d rd o k) : k.Good := by
 obtain ⟨P, R, pl, pr, _, hP, _⟩ := h.ex
 obtain ⟨F, _, hD, _⟩ := hP
 exact hD.good
theorem plays_any (B : Nat) (w : World) (sb d rd : Nat) (o : Option Lg) (k : Dk) (h : Sd B w sb d rd o k) (n : Nat) (hn : n ≤ 120) (hP : Pk n o k) (Do : Int) (ar : Option Addr) (nr cr : Nat) (al : Option Addr) (nl cl : Nat) (Nn : Int) (ak : Option Addr) (nk ck : Nat) (most : Int)
  (hN : -9223372036854775808 ≤ Nn ∧ Nn ≤ 9223372036854775807) (xs : List Int) (hR : ∀ w0 : World, Below B w w0 → Rd w0 ar nr cr xs) (ls : List (List Int)) (hL : ∀ w0 : World, Below B w w0 → RRd w0 al nl ls) (zs : List Int) (hK : ∀ w0 : World, Below B w w0 → IAr w0 ak nk ck zs) :
  Calls Tryz.prog 12 #[.pointer (some ⟨sb, 0, none⟩), .agg #[.int .i64 Do, .slice ar nr cr, .slice al nl cl, .int .i64 Nn, .slice ak nk ck], .int .i64 most] w fun e w' => e = .returned (.bool true) ∧ Below B w w' ∧ ∃ o2 k2, Sd B w' sb d rd o2 k2 ∧ Pk (n + 1) o2 k2 := by
 have hg := h.good
 have hro := hP.pl.ro
 have hfl := hP.pl.fl
 have hst := hP.pl.st
 have hus := hg.used
 by_cases h5 : Do = 5
 ·refine (plays_open B w sb d rd o k h Do ar nr cr al nl cl Nn ak nk ck most h5 (by omega) (by omega) (by omega)).mono ?_
  rintro e w' ⟨e1, hS, hb⟩
  exact ⟨e1, hb, _, _, hS, Pk.open hP.pl (by omega) most hg⟩
 by_cases h6 : Do = 6
 ·subst h6
  refine (plays_fuse B w sb d rd o k h ar nr cr al nl cl Nn ak nk ck most hN.2).mono ?_
  rintro e w' ⟨e1, hS, hb⟩
  exact ⟨e1, hb, _, _, hS, hP.pl.fuse Nn hg.rise, hP.rc⟩
 by_cases h7 : Do = 7
 ·subst h7
  have hr := hP.pl.rest (zs.take 30)
  have r1 := hr.fl
  have r2 := hr.st
  refine (plays_restart B w sb d rd o k h ar nr cr al nl cl Nn ak nk ck most (by omega) zs hK (by omega) (by omega) (by omega)).mono ?_
  rintro e w' ⟨e1, hS, hb, hgr⟩
  exact ⟨e1, hb, _, _, hS, Pk.open hr (by omega) most hgr⟩
 cases o with
 | none =>
  refine (plays_none B w sb d rd () k h Do ar nr cr al nl cl Nn ak nk ck most h5 h6 h7).mono ?_
  rintro e w' ⟨e1, hS, hb⟩
  exact ⟨e1, hb, _, _, hS, hP.next⟩
 | some l =>
  have hl := hP.pl.lg l _root_.rfl
  have hrc := hP.rc l _root_.rfl
  have hok := hl.ok (by omega)
  have c1 := hl.cnt
  have c2 := hl.most
  have c3 := hl.recs
  by_cases h1 : Do = 1
  ·subst h1
   refine (plays_append B w sb d rd l k h ar nr cr al nl cl Nn ak nk ck most hok (by omega) (by omega) hl.z0 xs hR).mono ?_
   rintro e w' ⟨e1, hS, hb⟩
   have hx : (xs.take 200).length ≤ 200 := by rw [List.length_take]; omega
   exact ⟨e1, hb, _, _, hS, hP.pl.append hg.rise _ hx, fun l2 e2 => by injection e2 with e2; subst e2; exact rcm_append hrc k _ hx⟩
  by_cases h2 : Do = 2
  ·subst h2
   refine (plays_commit B w sb d rd l k h ar nr cr al nl cl Nn ak nk ck most hok (by omega) (by omega)).mono ?_
   rintro e w' ⟨e1, hS, hb⟩
   exact ⟨e1, hb, _, _, hS, hP.pl.commit hg.rise, fun l2 e2 => by injection e2 with e2; subst e2; exact hrc⟩
  by_cases h3 : Do = 3
  ·subst h3
   refine (plays_at B w sb d rd l k h ar nr cr al nl cl Nn ak nk ck most hN (fun r hr => by have := hrc r hr; omega) (by omega)).mono ?_
   rintro e w' ⟨e1, hS, hb⟩
   exact ⟨e1, hb, _, _, hS, hP.next⟩
  by_cases h4 : Do = 4
  ·subst h4
   refine (plays_rebase B w sb d rd l k h ar nr cr al nl cl Nn ak nk ck most hok (by omega) (by omega) (by omega) (by omega) ls hL).mono ?_
   rintro e w' ⟨e1, hS, hb⟩
   exact ⟨e1, hb, _, _, hS, hP.pl.rebase (by omega) hg.rise _ (tw_rl ls) (tw_len ls), fun l2 e2 => by injection e2 with e2; subst e2; exact rcm_rebase hrc k _ (tw_rl ls)⟩
  ·refine (plays_other B w sb d rd l k h Do ar nr cr al nl cl Nn ak nk ck most (by omega)).mono ?_
   rintro e w' ⟨e1, hS, hb⟩
   exact ⟨e1, hb, _, _, hS, hP.next⟩
end Go.Proofs.YtikkieaokfailaaGreatDoor

namespace Go.Proofs.YtikkieaokfailaaGreatDoor
open Go.RowKit Go.Joins
structure Rx (W : World) (sb d rd n : Nat) (wr : World) : Prop where
 ex : ∃ o k, Sd W.heap.size wr sb d rd o k ∧ Pk n o k
 bl : Below W.heap.size W wr
end Go.Proofs.YtikkieaokfailaaGreatDoor

namespace Go.Proofs.YtikkieaokfailaaGreatDoor
open Go.RowKit Go.Joins
theorem gr_appR (k : Dk) (s : Nm) (ys : List Int) : (appK k s ys).2.steps ≤ k.steps + 1 ∧ (appK k s ys).2.fs.length ≤ k.fs.length + 1 := by
 unfold appK
 split
 ·exact ⟨Nat.le_succ _, Nat.le_succ _⟩
 ·split
  ·exact ⟨Nat.le_succ _, Nat.le_succ _⟩
  ·split
   ·exact ⟨Nat.le_succ _, Nat.le_succ _⟩
   ·rw [pass_with]
    have h3 := pass_steps k
    exact ⟨h3, len_put _ _ _⟩
structure Rw (B d rd : Nat) (k : Dk) (F G : Nat → Prop) (w : World) : Prop where
 D : DiskAt w F d k
 R : RefAt w G rd k
 fg : ∀ i, F i → ¬ G i
 ff : ∀ i, F i → B ≤ i
 gg : ∀ i, G i → B ≤ i
theorem Rw.below {B d rd : Nat} {k : Dk} {F G : Nat → Prop} {w w' : World} (h : Rw B d rd k F G w) (hb : Below w.heap.size w w') : Rw B d rd k F G w' :=
 ⟨h.D.below hb, h.R.below hb, h.fg, h.ff, h.gg⟩
structure Rh (B d rd : Nat) (k k' : Dk) (F G : Nat → Prop) (w : World) : Prop where
 D : DiskAt w F d k'
 R : RefAt w G rd k
 fg : ∀ i, F i → ¬ G i
 ff : ∀ i, F i → B ≤ i
 gg : ∀ i, G i → B ≤ i
theorem Rh.below {B d rd : Nat} {k k' : Dk} {F G : Nat → Prop} {w w' : World} (h : Rh B d rd k k' F G w) (hb : Below w.heap.size w w') : Rh B d rd k k' F G w' :=
 ⟨h.D.below hb, h.R.below hb, h.fg, h.ff, h.gg⟩
theorem Rw.prog {B d rd : Nat} {k k' : Dk} {F G : Nat → Prop} {w w' : World} (h : Rw B d rd k F G w) (hB : B ≤ w.heap.size) (hp : Dp w F d k' w') : (∃ F', Rh B d rd k k' F' G w') ∧ Below B w w' := by
 obtain ⟨F', hD, hk, hF⟩ := hp
 refine ⟨⟨F', hD, h.R.keep hk (fun i hi hf => h.fg i hf hi), fun i hi hg => ?_, fun i hi => ?_, h.gg⟩, hk.below hB h.ff⟩
 ·rcases hF i hi with h1 | h1
  ·exact h.fg i h1 hg
  ·have := h.R.lt i hg; omega
 ·rcases hF i hi with h1 | h1
  ·exact h.ff i h1
  ·omega
theorem Rh.doc {B d rd : Nat} {k k' : Dk} {F G : Nat → Prop} {w w' : World} (h : Rh B d rd k k' F G w) (hB : B ≤ w.heap.size) (hp : Rp w G rd k' w') : (∃ G', Rw B d rd k' F G' w') ∧ Below B w w' := by
 obtain ⟨G', hR, hk, hG⟩ := hp
 refine ⟨⟨G', h.D.keep hk (fun i hi hg => h.fg i hi hg), hR, fun i hi hg => ?_, h.ff, fun i hi => ?_⟩, hk.below hB h.gg⟩
 ·rcases hG i hg with h1 | h1
  ·exact h.fg i hi h1
  ·have := h.D.lt i hi; omega
 ·rcases hG i hi with h1 | h1
  ·exact h.gg i h1
  ·omega
structure RwS (W : World) (d rd n : Nat) (w : World) : Prop where
 ex : ∃ k F G, Rw W.heap.size d rd k F G w ∧ k.room ≤ 5000 ∧ k.steps ≤ n ∧ k.fs.length ≤ n
 bl : Below W.heap.size W w
theorem Rw.side {B d rd : Nat} {k : Dk} {F G : Nat → Prop} {w W : World} (h : Rw B d rd k F G w) (hp : Pw W) (hpl : 0 < B) (hB : B ≤ w.heap.size) (hW : w.alloc (.cells #[.pointer (some ⟨d, 0, none⟩), .pointer none, .pointer (some ⟨rd, 0, none⟩), .pointer none] 51) = W) : Sd B W w.heap.size d rd none k := by
 have hbW : Below w.heap.size w W := by rw [← hW]; exact (Below.refl _ _).alloc (Nat.le_refl _) _
 have hblk : W.heap[w.heap.size]? = some (.cells #[.pointer (some ⟨d, 0, none⟩), .pointer none, .pointer (some ⟨rd, 0, none⟩), .pointer none] 51 (0, 0)) := by rw [← hW]; exact alloc_at w _
 have hsW : w.heap.size < W.heap.size := (Array.getElem?_eq_some_iff.1 hblk).1
 have hFl := h.D.lt
 have hGl := h.R.lt
 refine ⟨⟨F, G, _, _, hblk, ⟨F, fun i hi => hi, h.D.below hbW, fun i hi => by have := h.ff i hi; omega, rfl⟩, ⟨G, fun i hi => hi, h.R.keep (S := fun _ => False) (Keep.ofBelow hbW) (fun _ _ h => h), rfl⟩, h.fg, fun hi => ?_, fun hi => ?_, fun i hi => ?_⟩, hB, hp, hpl⟩
 ·have := hFl _ hi; omega
 ·have := hGl _ hi; omega
 ·rcases hi with hi | hi
  ·exact ⟨h.ff i hi, by have := hFl i hi; omega⟩
  ·exact ⟨h.gg i hi, by have := hGl i hi; omega⟩
set_option maxRecDepth 100000 in
set_option maxHeartbeats 8000000 in
theorem logRaw_any (a1 : Option Addr) (n1 c1 : Nat) (most : Int) (a : Option Addr) (n c : Nat) (W : World) (hF1 : ORd W a1 n1 c1) (hO : SORd W a n c) (hP : Pw W) :
  Calls Tryz.prog 4 #[.slice a1 n1 c1, .int .i64 most, .slice a n c] W fun e w' => e = .returned (.bool true) ∧ Below W.heap.size W w' := by
 have HF : Hid (ORd W a1 n1 c1) := hF1
 have HO : Hid (SORd W a n c) := hO
 have hZ : (n : Int) ≤ 9223372036854775807 := by have := hO.cap; have := hO.most; omega
 have hZ1 : (n1 : Int) ≤ 9223372036854775807 := by have := hF1.cap; have := hF1.most; omega
 have hpl := hP.at
 have HP : Hid (Pw W) := hP
 have hn := new_ok 5000 (by omega) W
 have hrn := fun w' => refNew_ok 5000 (by omega) w'
 clear hO hF1 hP
 go_enter Tryz.func4, Tryz.ntmps4
 go_wp2_with (first
  | (go_at_call 14; refine hn.mono ?_; clear hn; rintro e w1 ⟨d, rfl, ⟨F, hD, hF⟩, hb1⟩)
  | (go_at_call 15; refine (hrn _).mono ?_; clear hrn; rintro e w2 ⟨rd, rfl, ⟨G, hG, hGn⟩, hb2⟩; have hw := swakes_any w2 ((HP.out.below hb1).below hb2))
  | (go_at_call 11; refine hw.mono ?_; clear hw; rintro e w3 ⟨rfl, hb3⟩; have HS0 : Hid (RwS W d rd 0 w3) := ⟨⟨newK 5000, F, G, ⟨(hD.below hb2).below hb3, hG.below hb3, fun i hi hj => (by have h1 := hD.lt i hi; have h2 := hGn i hj; omega), hF, fun i hi => (by have h1 := hGn i hi; have h2 := hb1.size; omega)⟩, Nat.le_refl _, Nat.le_refl _, Nat.le_refl _⟩, (hb1.trans (hb2.mono hb1.size)).trans (hb3.mono (by have := hb1.size; have := hb2.size; omega))⟩; clear hD hF hb1 hG hGn hb2 hb3))
 go_loopg [11] 30 (fun kx s wr => ∃ i : Nat, s = .int .i64 i ∧ i + kx = 30 ∧ Hid (RwS W d rd i wr))
 case atStart => exact ⟨0, rfl, rfl, HS0⟩
 case round =>
  clear HS0
  obtain ⟨i, rfl, hik, HS⟩ := hrel
  by_cases h1 : i < n1 ∧ i < 30
  ·obtain ⟨h1, h2⟩ := h1
   have h1z : (i : Int) < (n1 : Int) := by omega
   have h2z : (i : Int) < 30 := by omega
   obtain ⟨b, off, rfl, hce⟩ := HF.out.flat (by omega)
   obtain ⟨On, Do, A, B, ar, nr, cr, xs, Nn, ak, nk, ck, zs, hop⟩ := hce i h1
   clear hce
   obtain ⟨k, F, G, hRw, hro, hst, hfl⟩ := HS.out.ex
   have hat : ∀ w', Below W.heap.size W w' → OpAt w' b (off + i * 7) On Do A B ar nr cr xs Nn ak nk ck zs := fun w' hb => hop.below hb
   have hAs := hop.hA
   have hbl := HS.out.bl
   clear hop
   go_upto_region 8 with fail
   refine wp_region_lx (fun w' => Below W.heap.size W w') [] 13 (by kernel_rfl) (by kernel_rfl) ?_
   have hRw1 := hRw.below ((Below.refl wr.heap.size wr).drew)
   have HSX := hbl.drew
   clear hRw hbl
   generalize wr.drew = X at *
   refine lx_r 0 _ HSX ?_; simp only [lxa, lxb, lxc]
   refine lx_r 1 _ HSX ?_; simp only [lxa, lxb, lxc]
   refine lx_r 2 _ HSX ?_; simp only [lxa, lxb, lxc]
   refine lx_r 3 (.pointer (some ⟨b, off + i * 7, none⟩)) HSX ?_; simp only [lxa, lxb, lxc]
   refine lx_r 4 (.pointer (some ⟨b, off + i * 7 + 2, none⟩)) HSX ?_; simp only [lxa, lxb, lxc]
   refine lx_r 5 (.string A) HSX ?_ (hv := fun w' hS => by have q := (hat _ hS).c2; first | (go_simp; rfl) | go_simp); simp only [lxa, lxb, lxc]
   refine lx_r 6 _ HSX ?_; simp only [lxa, lxb, lxc]
   refine lx_r 7 _ HSX ?_; simp only [lxa, lxb, lxc]
   refine lx_r 8 (.pointer (some ⟨b, off + i * 7, none⟩)) HSX ?_; simp only [lxa, lxb, lxc]
   refine lx_r 9 (.pointer (some ⟨b, off + i * 7 + 4, none⟩)) HSX ?_; simp only [lxa, lxb, lxc]
   refine lx_r 10 (.slice ar nr cr) HSX ?_ (hv := fun w' hS => by have q := (hat _ hS).c4; first | (go_simp; rfl) | go_simp); simp only [lxa, lxb, lxc]
   refine lx_one 11 (by kernel_rfl) (stepT_call 17 ?a11 rfl rfl rfl ?r11 ?_)
   case r11 => first | (go_simp; rfl) | go_simp
   refine (few200O ar nr cr xs X (hat X HSX).hR).mono ?_
   rintro e w5 ⟨a5, n5, c5, rfl, hn5, _, r5, ha5, hb5⟩
   have hRw5 := hRw1.below hb5
   have HS5 := HSX.trans (hb5.mono HSX.size)
   refine ⟨_, rfl, fun _ => HS5, ?_⟩
   simp only [lxa, lxb, lxc]
   refine lx_one 12 (by kernel_rfl) (stepT_call 16 ?a12 rfl rfl rfl ?r12 ?_)
   case r12 => first | (go_simp; rfl) | go_simp
   refine (append_any d F k A a5 n5 c5 (xs.take 200) (by omega) (by omega) (by omega) w5 hRw5.D r5).mono ?_
   rintro e w6 ⟨rfl, hp6⟩
   obtain ⟨⟨F6, hRh6⟩, hb6⟩ := hRw5.prog HS5.size hp6
   have HS6 := HS5.trans hb6
   refine ⟨_, rfl, fun _ => HS6, ?_⟩
   simp only [lxa, lxb, lxc]
   refine lx_nil (by kernel_rfl) ?_
   clear hRw1 HSX hRw5 HS5 r5 ha5 hb5 hp6 hb6 hn5
   go_upto_region 9 with fail
   refine wp_region_lx (fun w' => Below W.heap.size W w') [] 13 (by kernel_rfl) (by kernel_rfl) ?_
   have hRh7 := hRh6.below ((Below.refl w6.heap.size w6).drew)
   have HS7 := HS6.drew
   clear hRh6 HS6
   generalize w6.drew = X2 at *
   refine lx_r 0 _ HS7 ?_; simp only [lxa, lxb, lxc]
   refine lx_r 1 _ HS7 ?_; simp only [lxa, lxb, lxc]
   refine lx_r 2 _ HS7 ?_; simp only [lxa, lxb, lxc]
   refine lx_r 3 (.pointer (some ⟨b, off + i * 7, none⟩)) HS7 ?_; simp only [lxa, lxb, lxc]
   refine lx_r 4 (.pointer (some ⟨b, off + i * 7 + 2, none⟩)) HS7 ?_; simp only [lxa, lxb, lxc]
   refine lx_r 5 (.string A) HS7 ?_ (hv := fun w' hS => by have q := (hat _ hS).c2; first | (go_simp; rfl) | go_simp); simp only [lxa, lxb, lxc]
   refine lx_r 6 _ HS7 ?_; simp only [lxa, lxb, lxc]
   refine lx_r 7 _ HS7 ?_; simp only [lxa, lxb, lxc]
   refine lx_r 8 (.pointer (some ⟨b, off + i * 7, none⟩)) HS7 ?_; simp only [lxa, lxb, lxc]
   refine lx_r 9 (.pointer (some ⟨b, off + i * 7 + 4, none⟩)) HS7 ?_; simp only [lxa, lxb, lxc]
   refine lx_r 10 (.slice ar nr cr) HS7 ?_ (hv := fun w' hS => by have q := (hat _ hS).c4; first | (go_simp; rfl) | go_simp); simp only [lxa, lxb, lxc]
   refine lx_one 11 (by kernel_rfl) (stepT_call 17 ?b11 rfl rfl rfl ?s11 ?_)
   case s11 => first | (go_simp; rfl) | go_simp
   refine (few200O ar nr cr xs X2 (hat X2 HS7).hR).mono ?_
   rintro e w8 ⟨a8, n8, c8, rfl, hn8, _, r8, ha8, hb8⟩
   have hRh8 := hRh7.below hb8
   have HS8 := HS7.trans (hb8.mono HS7.size)
   refine ⟨_, rfl, fun _ => HS8, ?_⟩
   simp only [lxa, lxb, lxc]
   refine lx_one 12 (by kernel_rfl) (stepT_call 18 ?b12 rfl rfl rfl ?s12 ?_)
   case s12 => first | (go_simp; rfl) | go_simp
   refine (refAppend_any rd G k A hAs a8 n8 c8 (xs.take 200) (by omega) (by omega) w8 hRh8.R r8 (fun ad e hg => by have h1 := ha8 ad e; have h2 := hRh7.R.lt _ hg; omega)).mono ?_
   rintro e w9 ⟨rfl, hp9⟩
   obtain ⟨⟨G9, hRw9⟩, hb9⟩ := hRh8.doc HS8.size hp9
   have HS9 := HS8.trans hb9
   have hgr := gr_appR k A (xs.take 200)
   have hrm := rm_app k A (xs.take 200)
   have HSn : Hid (RwS W d rd (i + 1) w9) := ⟨⟨_, F6, G9, hRw9, by rw [hrm]; exact hro, by omega, by omega⟩, HS9⟩
   refine ⟨_, rfl, fun _ => HS9, ?_⟩
   simp only [lxa, lxb, lxc]
   refine lx_nil (by kernel_rfl) ?_
   clear hRh7 HS7 hRh8 HS8 r8 ha8 hb8 hp9 hb9 hn8 hRw9 HS9 hgr hrm
   go_wp2_with fail
   go_roundg (gk - 1)
   case measure => omega
   case rel => exact ⟨i + 1, by go_num, by omega, HSn⟩
  ·have hcut : Hid (∃ i : Nat, RwS W d rd i wr ∧ i ≤ 30) := ⟨i, HS.out, by omega⟩
   have h2z : (i : Int) < (n1 : Int) → ¬ (i : Int) < 30 := by omega
   clear HS
   obtain ⟨j, hHS, hj⟩ := hcut.out
   obtain ⟨k, F, G, hRw, hro, hst, hfl⟩ := hHS.ex
   have hbl := hHS.bl
   clear hHS hcut
   obtain ⟨V, hV⟩ : ∃ V, wr.alloc (.cells #[.pointer (some ⟨d, 0, none⟩), .pointer none, .pointer (some ⟨rd, 0, none⟩), .pointer none] 51) = V := ⟨_, rfl⟩
   have hbV : Below W.heap.size W V := by rw [← hV]; exact hbl.alloc hbl.size _
   have hSd := hRw.side (HP.out.below hbV) hpl hbl.size hV
   have hg := hRw.D.good
   have hus := hg.used
   have hop := sideOpen_all W.heap.size wr.heap.size d rd most V none k hSd (by omega) (by omega) (by omega)
   have HT1 : Hid (∀ w4, Sd W.heap.size w4 wr.heap.size d rd (opI most k).1 (opI most k).2 → Below W.heap.size V w4 → Rx W wr.heap.size d rd 1 w4) := fun w4 hS4 hb4 => ⟨⟨_, _, hS4, Pk.open (show Pl 0 none k from ⟨hro, by omega, by omega, fun _ e => by cases e⟩) (by omega) most hg⟩, hbV.trans hb4⟩
   clear hRw hro hst hfl hSd hg hus hbl hbV
   by_cases h1z : (i : Int) < (n1 : Int)
   all_goals first | (replace h2z := h2z h1z) | clear h2z
   all_goals (go_upto_region 11 with fail; clear hV; try clear h2z)
   all_goals clear h1z hik h1 hj
   all_goals generalize wr.heap.size = sb at *
   all_goals go_wp2_with (first
    | (go_at_call 19; refine hop.mono ?_; clear hop; rintro e w4 ⟨rfl, hS4, hb4⟩; have HR4 := HT1.out w4 hS4 hb4; obtain ⟨o4, k4, hS5, hPk5⟩ := HR4.ex; have hb5 := HR4.bl; have hss := sideSame_any W.heap.size sb d rd w4 o4 k4 hS5 (by have := hPk5.pl.fl; omega) (fun l e => ⟨by have := (hPk5.pl.lg l e).recs; omega, fun r hr => by have := hPk5.rc l e r hr; omega⟩); clear HR4 HT1 hS4 hb4)
    | (go_at_call 13; refine hss.mono ?_; clear hss; rintro e w5 ⟨rfl, hb6⟩; have hR2 : Hid (Rx W sb d rd 1 w5) := ⟨⟨o4, k4, hS5.below hb6, hPk5⟩, hb5.trans (hb6.mono hb5.size)⟩; clear hS5 hPk5 hb5 hb6))
   all_goals
    go_loopg [13] 120 (fun kx s13 wr => ∃ i : Nat, s13 = .int .i64 i ∧ i + kx = 120 ∧ Hid (Rx W sb d rd (i + 1) wr))
    case atStart => exact ⟨0, rfl, rfl, hR2⟩
    case round =>
     clear hR2
     obtain ⟨i, rfl, hik, HR⟩ := hrel
     by_cases h1 : i < n
     ·have h1z : (i : Int) < (n : Int) := by omega
      by_cases h2 : i < 120
      ·have h2z : (i : Int) < 120 := by omega
       obtain ⟨b, off, rfl, hce⟩ := HO.out.flat (by omega)
       obtain ⟨Do, ar, nr, cr, xs, al, nl, cl, ls, Nn, ak, nk, ck, zs, hop⟩ := hce i h1
       clear hce
       obtain ⟨o, k, hS, hPk⟩ := HR.out.ex
       have hbl := HR.out.bl
       have hop2 := hop.below hbl
       have c0 := hop2.c0
       have c1 := hop2.c1
       have c2 := hop2.c2
       have c3 := hop2.c3
       have c4 := hop2.c4
       have hpy := plays_any W.heap.size wr sb d rd o k hS (i + 1) (by omega) hPk Do ar nr cr al nl cl Nn ak nk ck most hop.hN xs (fun w0 hb => hop.hR.carry (Nat.le_refl _) (hbl.trans hb)) ls (fun w0 hb => hop.hL.below (hbl.trans hb)) zs (fun w0 hb => hop.hK.carry (hbl.trans hb))
       clear hop hop2 hS hPk
       go_wp2_with (first
        | (go_at_call 12; refine hpy.mono ?_; clear hpy; rintro e w3 ⟨rfl, hb3, o2, k2, hS3, hPk3⟩; have hss := sideSame_any W.heap.size sb d rd w3 o2 k2 hS3 (by have := hPk3.pl.fl; omega) (fun l e => ⟨by have := (hPk3.pl.lg l e).recs; omega, fun r hr => by have := hPk3.rc l e r hr; omega⟩))
        | (go_at_call 13; refine hss.mono ?_; clear hss; rintro e w4 ⟨rfl, hb4⟩; have HR4 : Hid (Rx W sb d rd (i + 1 + 1) w4) := ⟨⟨_, _, hS3.below hb4, hPk3⟩, (hbl.trans hb3).trans (hb4.mono (by have := (hbl.trans hb3).size; omega))⟩; clear hS3 hPk3 hb3 hb4))
       go_roundg (gk - 1)
       case measure => omega
       case rel => exact ⟨i + 1, by go_num, by omega, HR4⟩
      ·have h2z : ¬ ((i : Int) < 120) := by omega
       go_wp2_with fail
       go_ret
       exact ⟨rfl, HR.out.bl⟩
     ·have h1z : ¬ ((i : Int) < (n : Int)) := by omega
      go_wp2_with fail
      go_ret
      exact ⟨rfl, HR.out.bl⟩
end Go.Proofs.YtikkieaokfailaaGreatDoor
