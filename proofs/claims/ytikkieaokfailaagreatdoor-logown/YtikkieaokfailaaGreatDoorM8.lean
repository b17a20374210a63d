/- Texts of one seat, one behind the other: LrC, LrD, LrE, LrF, RlA, RlB, DkZa. -/
import Derived.Test.YtikkieaokfailaaGreatDoorM7
import Derived.Test.YtikkieaokfailaaGreatDoorM4
import Derived.Test.YtikkieaokfailaaGreatDoorM6
namespace Go.Proofs.YtikkieaokfailaaGreatDoor
open Go.RowKit Go.Joins
def remC (c : Ch) (dn : Bool) (k : Dk) : Nat × Bool × Dk := remAll (segs c.g 0 c.cnt) dn k
def remNewL (dn : Bool) (k : Dk) : Nat × Bool × Dk := if (readK k sNew).1 = 0 then stp dn k (removeK k sNew) else (0, dn, k)
def back2 (c : Ch) (dn : Bool) (k : Dk) : Nat × Bool × Dk := if (remC c dn k).1 ≠ 0 then remC c dn k else remNewL (remC c dn k).2.1 (remC c dn k).2.2
def wrB (c : Ch) (dn : Bool) (k : Dk) : Nat × Ch × Bool × Dk := ((stp dn k (appK k sNew (baseL c.g))).1, c, (stp dn k (appK k sNew (baseL c.g))).2)
theorem baseL_bd (g : Nat) : Bd (baseL g) := by
 unfold baseL
 exact (bigL_bd _ _).append (bigL_bd _ _)
theorem remNew_any (w : World) (F : Nat → Prop) (lb d most : Nat) (v : Value) (c : Ch) (dn : Bool) (k : Dk) (h : LD w F lb d most v c dn k) (hst : k.steps < 1000000) :
  Calls Tryz.prog 116 #[.pointer (some ⟨lb, 0, none⟩)] w fun e w' => Gs (remNewL dn k).1 e ∧ Lp w F lb d most v c (remNewL dn k).2.1 (remNewL dn k).2.2 w' := by
 have q0 := h.c0
 have hrd := read_any d F k sNew w h.D
 have hrm := fun w' (hb : Below w.heap.size w w') => sremove_any lb d most F v c dn k sNew hst w' (h.below hb)
 unfold remNewL
 unfold sNew at *
 obtain ⟨P, HP⟩ : ∃ P, Hid (readK k ⟨#[98, 97, 115, 101, 46, 110, 101, 119]⟩ = P) := ⟨_, rfl⟩
 rw [HP.out] at hrd ⊢
 obtain ⟨er, xs⟩ := P
 dsimp only at hrd ⊢
 by_cases h7 : er = 0
 ·subst h7
  rw [if_pos rfl]
  obtain ⟨Q, HQ⟩ : ∃ Q, Hid (stp dn k (removeK k ⟨#[98, 97, 115, 101, 46, 110, 101, 119]⟩) = Q) := ⟨_, rfl⟩
  rw [HQ.out]
  simp only [HQ.out] at hrm
  obtain ⟨en, dn2, k2⟩ := Q
  dsimp only at hrm ⊢
  by_cases h0 : en = 0
  ·subst h0
   go_enter Tryz.func116, Tryz.ntmps116
   go_wp2_with (first
    | (go_at_call 38; refine hrd.mono ?_; rintro e w1 ⟨v1, rfl, o1, hb1⟩)
    | (go_at_call 134; refine ((hrm w1 hb1).mono (fun e w' h => And.intro (h.1.elim (fun k => k.2) (fun k => absurd rfl k.1)) h.2 : ∀ e w', _ → (e = .returned (.tuple #[]) ∧ _))).mono ?_; rintro e w2 ⟨rfl, hp⟩))
   go_end0
   exact ⟨Or.inl ⟨rfl, rfl⟩, hp.from hb1⟩
  ·go_enter Tryz.func116, Tryz.ntmps116
   go_wp2_with (first
    | (go_at_call 38; refine hrd.mono ?_; rintro e w1 ⟨v1, rfl, o1, hb1⟩)
    | (go_at_call 134; refine ((hrm w1 hb1).mono (fun e w' h => And.intro (h.1.elim (fun k => absurd k.1 h0) (fun k => k.2)) h.2 : ∀ e w', _ → (e = .panicked (gaveS en) ∧ _))).mono ?_; rintro e w2 ⟨rfl, hp⟩))
   exact ⟨rfl, gs_no h0 rfl, hp.from hb1⟩
 ·rw [if_neg h7]
  have z0 : ((er : Int) == 0) = false := by rw [beq_eq_false_iff_ne]; omega
  clear hrm
  go_enter Tryz.func116, Tryz.ntmps116
  go_wp2_with (first
   | (go_at_call 38; refine hrd.mono ?_; rintro e w1 ⟨v1, rfl, o1, hb1⟩))
  go_end0
  exact ⟨Or.inl ⟨rfl, rfl⟩, Lp.ofBelow h hb1⟩
section
variable (w : World) (F : Nat → Prop) (lb d most : Nat) (v : Value) (dn : Bool) (k : Dk) (b p : Nat) (c0 c : Ch)
theorem rb1_any (q : Nat) (h : LC w F lb d most v dn k b 0 c0 c) (hP : Pf w F lb) (hPb : 0 < b) (hp : w.heap[p]? = some (.cells #[.pointer (some ⟨lb, 0, none⟩)] 48 (0, 0))) (hg : c.g < 18446744073709551616) (hi : c.cnt ≤ 1000000000) (hz : c.size ≤ 1000000000) (hmo : most ≤ 1000000000)
  (a : Option Addr) (n cc : Nat) (rs : List (List Int)) (hq : w.heap[q]? = some (.cells #[.slice a n cc] 30 (0, 0))) (hR : RRd w a n rs) (hnS : RNot w a n (fun i => F i ∨ i = lb ∨ i = b)) (hn : n ≤ 10000) (hrl : ∀ r ∈ rs, r.length ≤ 1048576) (hst : k.steps + 2 * n < 999990) (hfl : k.fs.length + 2 * n < 999990) :
  Calls Tryz.prog 109 #[.pointer (some ⟨p, 0, none⟩), .pointer (some ⟨b, 0, none⟩), .pointer (some ⟨q, 0, none⟩)] w fun e w' => Gs (layAllL most rs c dn k).1 e ∧ Lcp w F lb d most v (layAllL most rs c dn k).2.2.1 (layAllL most rs c dn k).2.2.2 b 0 c0 (layAllL most rs c dn k).2.1 w' := by
 have hla := layAll_any w F lb d most v dn k b c0 c h hP hPb hg hi hz hmo a n cc rs hR hnS hn hrl hst hfl
 obtain ⟨P, HP⟩ : ∃ P, layAllL most rs c dn k = P := ⟨_, rfl⟩
 rw [HP] at hla ⊢
 clear HP
 obtain ⟨en, c2, dn2, k2⟩ := P
 dsimp only at hla ⊢
 have q1 := box_cell hp
 have q2 := box_cell hq
 by_cases h0 : en = 0
 ·subst h0
  go_enter Tryz.func109, Tryz.ntmps109
  go_wp2_with (first
   | (go_at_call 110; refine (hla.mono (fun e w' h => And.intro (h.1.elim (fun k => k.2) (fun k => absurd rfl k.1)) h.2 : ∀ e w', _ → (e = .returned (.tuple #[]) ∧ _))).mono ?_; rintro e w6 ⟨rfl, hp⟩))
  go_end0
  exact ⟨Or.inl ⟨rfl, rfl⟩, hp⟩
 ·go_enter Tryz.func109, Tryz.ntmps109
  go_wp2_with (first
   | (go_at_call 110; refine (hla.mono (fun e w' h => And.intro (h.1.elim (fun k => absurd k.1 h0) (fun k => k.2)) h.2 : ∀ e w', _ → (e = .panicked (gaveS en) ∧ _))).mono ?_; rintro e w6 ⟨rfl, hp⟩))
  exact ⟨rfl, gs_no h0 rfl, hp⟩
theorem LC.ld (h : LC w F lb d most v dn k b 0 c0 c) (hb : b ≠ lb) : LD w F lb d most v c0 dn k := by
 have := h.L
 rw [if_neg hb] at this
 exact this
theorem LC.lp {w' : World} {dn' : Bool} {k' : Dk} (h : LC w F lb d most v dn k b 0 c0 c) (hb : b ≠ lb) (hp : Lp w F lb d most v c0 dn' k' w') : Lcp w F lb d most v dn' k' b 0 c0 c w' := h.step (by rw [if_neg hb]; exact hp)
theorem rb2_any (h : LC w F lb d most v dn k b 0 c0 c) (hb : b ≠ lb) (hP : Pf w F lb) (hp : w.heap[p]? = some (.cells #[.pointer (some ⟨lb, 0, none⟩)] 48 (0, 0))) (hg : c.g < 18446744073709551616) (hi : c.cnt ≤ 100000) (hst : k.steps + c.cnt < 1000000) :
  Calls Tryz.prog 111 #[.pointer (some ⟨p, 0, none⟩), .pointer (some ⟨b, 0, none⟩)] w fun e w' => Gs (remC c dn k).1 e ∧ Lcp w F lb d most v (remC c dn k).2.1 (remC c dn k).2.2 b 0 c0 c w' := by
 have hrs := remSegs_any w F lb d most v c0 dn k c 0 (h.ld _ _ _ _ _ _ _ _ _ _ _ hb) hP hg hi hst
 rw [Nat.sub_zero] at hrs
 unfold remC
 obtain ⟨P, HP⟩ : ∃ P, remAll (segs c.g 0 c.cnt) dn k = P := ⟨_, rfl⟩
 rw [HP] at hrs ⊢
 clear HP
 obtain ⟨en, dn2, k2⟩ := P
 dsimp only at hrs ⊢
 have q1 := box_cell hp
 have x0 : w.cell? ⟨b, 0, none⟩ = some (.int .u64 (c.g : Int)) := h.cell 0 (by omega)
 have x1 : w.cell? ⟨b, 1, none⟩ = some (.int .i64 (c.cnt : Int)) := h.cell 1 (by omega)
 have x2 : w.cell? ⟨b, 2, none⟩ = some (.int .i64 (c.size : Int)) := h.cell 2 (by omega)
 have x3 : w.cell? ⟨b, 3, none⟩ = some (.bool c.loose) := h.cell 3 (by omega)
 unfold chs at hrs
 have z1 : ((0 + 1 : Nat) : Int) = 1 := rfl
 rw [z1] at hrs
 by_cases h0 : en = 0
 ·subst h0
  go_enter Tryz.func111, Tryz.ntmps111
  go_wp2_with (first
   | (go_at_call 112; refine (hrs.mono (fun e w' h => And.intro (h.1.elim (fun k => k.2) (fun k => absurd rfl k.1)) h.2 : ∀ e w', _ → (e = .returned (.tuple #[]) ∧ _))).mono ?_; rintro e w6 ⟨rfl, hp6⟩))
  go_end0
  exact ⟨Or.inl ⟨rfl, rfl⟩, h.lp _ _ _ _ _ _ _ _ _ _ _ hb hp6⟩
 ·go_enter Tryz.func111, Tryz.ntmps111
  go_wp2_with (first
   | (go_at_call 112; refine (hrs.mono (fun e w' h => And.intro (h.1.elim (fun k => absurd k.1 h0) (fun k => k.2)) h.2 : ∀ e w', _ → (e = .panicked (gaveS en) ∧ _))).mono ?_; rintro e w6 ⟨rfl, hp6⟩))
  exact ⟨rfl, gs_no h0 rfl, h.lp _ _ _ _ _ _ _ _ _ _ _ hb hp6⟩
set_option maxHeartbeats 1000000 in
theorem rb3_any (h : LC w F lb d most v dn k b 0 c0 c) (hb : b ≠ lb) (hp : w.heap[p]? = some (.cells #[.pointer (some ⟨lb, 0, none⟩)] 48 (0, 0))) (np : ¬ F p ∧ p ≠ lb) (hst : k.steps < 999999) (hfl : k.fs.length < 999999) :
  Calls Tryz.prog 113 #[.pointer (some ⟨p, 0, none⟩), .pointer (some ⟨b, 0, none⟩)] w fun e w' => Gs (wrB c dn k).1 e ∧ Lcp w F lb d most v (wrB c dn k).2.2.1 (wrB c dn k).2.2.2 b 0 c0 (wrB c dn k).2.1 w' := by
 have hbX : Below w.heap.size w w.drew := (Below.refl _ _).drew
 have x0 : w.cell? ⟨b, 0, none⟩ = some (.int .u64 (c.g : Int)) := h.cell 0 (by omega)
 have HS0 : w.drew.cell? ⟨p, 0, none⟩ = some (.pointer (some ⟨lb, 0, none⟩)) ∧ w.drew.cell? ⟨b, 0, none⟩ = some (.int .u64 (c.g : Int)) := ⟨box_cell hp, x0⟩
 have hLD := h.ld _ _ _ _ _ _ _ _ _ _ _ hb
 have hwr := fun w' (hb : Below w.heap.size w w') a e hR => swrite_any lb d most F v c0 dn k sNew a 12 e (baseL c.g) (by omega) (by omega) (by omega) w' (hLD.below hb) hR
 have hfin : ∀ w', Lp w F lb d most v c0 (wrB c dn k).2.2.1 (wrB c dn k).2.2.2 w' → Lcp w F lb d most v (wrB c dn k).2.2.1 (wrB c dn k).2.2.2 b 0 c0 (wrB c dn k).2.1 w' := fun w' h9 => h.lp _ _ _ _ _ _ _ _ _ _ _ hb h9
 unfold wrB at hfin ⊢
 dsimp only at hfin ⊢
 unfold sNew at hwr hfin ⊢
 obtain ⟨P, HP⟩ : ∃ P, stp dn k (appK k ⟨#[98, 97, 115, 101, 46, 110, 101, 119]⟩ (baseL c.g)) = P := ⟨_, rfl⟩
 rw [HP] at hfin ⊢
 simp only [HP] at hwr
 clear HP
 obtain ⟨en, dn2, k2⟩ := P
 dsimp only at hwr hfin ⊢
 have hbf := baseForm_any c.g w.drew
 by_cases h0 : en = 0
 ·subst h0
  go_enter Tryz.func113, Tryz.ntmps113
  go_upto_region 0 with fail
  refine wp_region_lx (fun w' => w'.cell? ⟨p, 0, none⟩ = some (.pointer (some ⟨lb, 0, none⟩)) ∧ w'.cell? ⟨b, 0, none⟩ = some (.int .u64 (c.g : Int))) [] 5 (by kernel_rfl) (by kernel_rfl) ?_
  generalize w.drew = X at *
  refine lx_r 0 (.pointer (some ⟨lb, 0, none⟩)) HS0 ?_ (hv := fun w' hS => by have q := hS.1; first | (go_simp; rfl) | go_simp); simp only [lxa, lxb, lxc]
  refine lx_r 1 (.pointer (some ⟨b, 0, none⟩)) HS0 ?_; simp only [lxa, lxb, lxc]
  refine lx_r 2 (.int .u64 (c.g : Int)) HS0 ?_ (hv := fun w' hS => by have q := hS.2; first | (go_simp; rfl) | go_simp); simp only [lxa, lxb, lxc]
  refine lx_one 3 (by kernel_rfl) (stepT_call 114 ?a3 rfl rfl rfl ?r3 ?_)
  case r3 => first | (go_simp; rfl) | go_simp
  refine hbf.mono ?_
  rintro e w3 ⟨v3, rfl, o3, hb3⟩
  obtain ⟨a3, c3, rfl, r3⟩ := Rd.ofOwn o3 (baseL_bd c.g)
  have t3 : ∀ p x, X.cell? p = some x → w3.cell? p = some x := fun p x hx => (hb3.cell (World.block_lt_of_cell? _ _ hx)).trans hx
  refine ⟨_, rfl, fun _ => ⟨t3 _ _ HS0.1, t3 _ _ HS0.2⟩, ?_⟩
  simp only [lxa, lxb, lxc]
  have hB3 : Below w.heap.size w w3 := hbX.trans (hb3.mono hbX.size)
  refine lx_one 4 (by kernel_rfl) (stepT_call 102 ?a4 rfl rfl rfl ?r4 ?_)
  case r4 => first | (go_simp; rfl) | go_simp
  refine ((hwr w3 hB3 a3 c3 r3).mono (fun e w' h => And.intro (h.1.elim (fun k => k.2) (fun k => absurd rfl k.1)) h.2 : ∀ e w', _ → (e = .returned (.tuple #[]) ∧ _))).mono ?_
  rintro e w4 ⟨rfl, hp4⟩
  have HS4 : w4.cell? ⟨p, 0, none⟩ = some (.pointer (some ⟨lb, 0, none⟩)) ∧ w4.cell? ⟨b, 0, none⟩ = some (.int .u64 (c.g : Int)) := by
   obtain ⟨_, _, hk4, _⟩ := hp4
   exact ⟨hk4.cell (p := ⟨p, 0, none⟩) (t3 _ _ HS0.1) (fun h9 => h9.elim np.1 np.2), hk4.cell (p := ⟨b, 0, none⟩) (t3 _ _ HS0.2) (fun h9 => h9.elim h.nfb hb)⟩
  refine ⟨_, rfl, fun _ => HS4, ?_⟩
  simp only [lxa, lxb, lxc]
  refine lx_nil (by kernel_rfl) ?_
  go_wp2
  go_end0
  exact ⟨Or.inl ⟨rfl, rfl⟩, hfin w4 (hp4.from hB3)⟩
 ·go_enter Tryz.func113, Tryz.ntmps113
  go_upto_region 0 with fail
  refine wp_region_lx (fun w' => w'.cell? ⟨p, 0, none⟩ = some (.pointer (some ⟨lb, 0, none⟩)) ∧ w'.cell? ⟨b, 0, none⟩ = some (.int .u64 (c.g : Int))) [] 5 (by kernel_rfl) (by kernel_rfl) ?_
  generalize w.drew = X at *
  refine lx_r 0 (.pointer (some ⟨lb, 0, none⟩)) HS0 ?_ (hv := fun w' hS => by have q := hS.1; first | (go_simp; rfl) | go_simp); simp only [lxa, lxb, lxc]
  refine lx_r 1 (.pointer (some ⟨b, 0, none⟩)) HS0 ?_; simp only [lxa, lxb, lxc]
  refine lx_r 2 (.int .u64 (c.g : Int)) HS0 ?_ (hv := fun w' hS => by have q := hS.2; first | (go_simp; rfl) | go_simp); simp only [lxa, lxb, lxc]
  refine lx_one 3 (by kernel_rfl) (stepT_call 114 ?b3 rfl rfl rfl ?s3 ?_)
  case s3 => first | (go_simp; rfl) | go_simp
  refine hbf.mono ?_
  rintro e w3 ⟨v3, rfl, o3, hb3⟩
  obtain ⟨a3, c3, rfl, r3⟩ := Rd.ofOwn o3 (baseL_bd c.g)
  have t3 : ∀ p x, X.cell? p = some x → w3.cell? p = some x := fun p x hx => (hb3.cell (World.block_lt_of_cell? _ _ hx)).trans hx
  refine ⟨_, rfl, fun _ => ⟨t3 _ _ HS0.1, t3 _ _ HS0.2⟩, ?_⟩
  simp only [lxa, lxb, lxc]
  have hB3 : Below w.heap.size w w3 := hbX.trans (hb3.mono hbX.size)
  refine lx_one 4 (by kernel_rfl) (stepT_callP 102 ?b4 rfl rfl rfl ?s4 ?_)
  case s4 => first | (go_simp; rfl) | go_simp
  refine ((hwr w3 hB3 a3 c3 r3).mono (fun e w' h => And.intro (h.1.elim (fun k => absurd k.1 h0) (fun k => k.2)) h.2 : ∀ e w', _ → (e = .panicked (gaveS en) ∧ _))).mono ?_
  rintro e w4 ⟨rfl, hp4⟩
  refine Or.inr ⟨_, rfl, ?_⟩
  exact ⟨rfl, gs_no h0 rfl, hfin w4 (hp4.from hB3)⟩
set_option maxHeartbeats 1000000 in
theorem rb4_any (h : LC w F lb d most v dn k b 0 c0 c) (hb : b ≠ lb) (hP : Pf w F lb) (hp : w.heap[p]? = some (.cells #[.pointer (some ⟨lb, 0, none⟩)] 48 (0, 0))) (np : ¬ F p ∧ p ≠ lb) (hg : c.g < 18446744073709551616) (hi : c.cnt ≤ 100000) (hst : k.steps + c.cnt < 999999) :
  Calls Tryz.prog 115 #[.pointer (some ⟨p, 0, none⟩), .pointer (some ⟨b, 0, none⟩)] w fun e w' => Gs (back2 c dn k).1 e ∧ Lcp w F lb d most v (back2 c dn k).2.1 (back2 c dn k).2.2 b 0 c0 c w' := by
 have hLD := h.ld _ _ _ _ _ _ _ _ _ _ _ hb
 have hrs := remSegs_any w F lb d most v c0 dn k c 0 hLD hP hg hi (by omega)
 rw [Nat.sub_zero] at hrs
 have hgr := (remAll_gr (segs c.g 0 c.cnt) dn k).1
 rw [segs_len] at hgr
 unfold back2 remC
 obtain ⟨P, HP⟩ : ∃ P, remAll (segs c.g 0 c.cnt) dn k = P := ⟨_, rfl⟩
 rw [HP] at hrs hgr ⊢
 clear HP
 obtain ⟨en, dn2, k2⟩ := P
 dsimp only at hrs hgr ⊢
 have q1 := box_cell hp
 have x0 : w.cell? ⟨b, 0, none⟩ = some (.int .u64 (c.g : Int)) := h.cell 0 (by omega)
 have x1 : w.cell? ⟨b, 1, none⟩ = some (.int .i64 (c.cnt : Int)) := h.cell 1 (by omega)
 have x2 : w.cell? ⟨b, 2, none⟩ = some (.int .i64 (c.size : Int)) := h.cell 2 (by omega)
 have x3 : w.cell? ⟨b, 3, none⟩ = some (.bool c.loose) := h.cell 3 (by omega)
 unfold chs at hrs
 have z1 : ((0 + 1 : Nat) : Int) = 1 := rfl
 rw [z1] at hrs
 by_cases h0 : en = 0
 ·subst h0
  rw [if_neg (by simp)]
  have hrn := fun w' F' (hL : LD w' F' lb d most v c0 dn2 k2) => remNew_any w' F' lb d most v c0 dn2 k2 hL (by omega)
  obtain ⟨Q, HQ⟩ : ∃ Q, remNewL dn2 k2 = Q := ⟨_, rfl⟩
  rw [HQ]
  simp only [HQ] at hrn
  clear HQ
  obtain ⟨en3, dn3, k3⟩ := Q
  dsimp only at hrn ⊢
  by_cases h03 : en3 = 0
  ·subst h03
   go_enter Tryz.func115, Tryz.ntmps115
   go_upto_region 1 with (first
    | (go_at_call 112; refine (hrs.mono (fun e w' h => And.intro (h.1.elim (fun k => k.2) (fun k => absurd rfl k.1)) h.2 : ∀ e w', _ → (e = .returned (.tuple #[]) ∧ _))).mono ?_; rintro e w6 ⟨rfl, F6, hL6, hk6, hF6⟩))
   have q6 := hk6.cell (p := ⟨p, 0, none⟩) q1 (fun h9 => h9.elim np.1 np.2)
   clear q1 x0 x1 x2 x3
   go_wp2_with (first
    | (go_at_call 116; refine ((hrn w6 F6 hL6).mono (fun e w' h => And.intro (h.1.elim (fun k => k.2) (fun k => absurd rfl k.1)) h.2 : ∀ e w', _ → (e = .returned (.tuple #[]) ∧ _))).mono ?_; rintro e w7 ⟨rfl, hp7⟩))
   go_end0
   exact ⟨Or.inl ⟨rfl, rfl⟩, h.lp _ _ _ _ _ _ _ _ _ _ _ hb (Lp.next hk6 hF6 hp7)⟩
  ·go_enter Tryz.func115, Tryz.ntmps115
   go_upto_region 1 with (first
    | (go_at_call 112; refine (hrs.mono (fun e w' h => And.intro (h.1.elim (fun k => k.2) (fun k => absurd rfl k.1)) h.2 : ∀ e w', _ → (e = .returned (.tuple #[]) ∧ _))).mono ?_; rintro e w6 ⟨rfl, F6, hL6, hk6, hF6⟩))
   have q6 := hk6.cell (p := ⟨p, 0, none⟩) q1 (fun h9 => h9.elim np.1 np.2)
   clear q1 x0 x1 x2 x3
   go_wp2_with (first
    | (go_at_call 116; refine ((hrn w6 F6 hL6).mono (fun e w' h => And.intro (h.1.elim (fun k => absurd k.1 h03) (fun k => k.2)) h.2 : ∀ e w', _ → (e = .panicked (gaveS en3) ∧ _))).mono ?_; rintro e w7 ⟨rfl, hp7⟩))
   exact ⟨rfl, gs_no h03 rfl, h.lp _ _ _ _ _ _ _ _ _ _ _ hb (Lp.next hk6 hF6 hp7)⟩
 ·rw [if_pos h0]
  go_enter Tryz.func115, Tryz.ntmps115
  go_wp2_with (first
   | (go_at_call 112; refine (hrs.mono (fun e w' h => And.intro (h.1.elim (fun k => absurd k.1 h0) (fun k => k.2)) h.2 : ∀ e w', _ → (e = .panicked (gaveS en) ∧ _))).mono ?_; rintro e w6 ⟨rfl, hp6⟩))
  exact ⟨rfl, gs_no h0 rfl, h.lp _ _ _ _ _ _ _ _ _ _ _ hb hp6⟩
theorem rb5_any (h : LD w F lb d most v c0 dn k) (hp : w.heap[p]? = some (.cells #[.pointer (some ⟨lb, 0, none⟩)] 48 (0, 0))) (hst : k.steps < 1000000) (hfl : k.fs.length < 1000000) :
  Calls Tryz.prog 118 #[.pointer (some ⟨p, 0, none⟩)] w fun e w' => e = .returned (.int .i64 (renameK k sNew sBase).1) ∧ Dp w F d (renameK k sNew sBase).2 w' := by
 have hrn := rename_any d F k sNew sBase hst hfl w h.D
 have q0 := box_cell hp
 have q1 := h.c0
 unfold sNew sBase at *
 obtain ⟨P, HP⟩ : ∃ P, renameK k ⟨#[98, 97, 115, 101, 46, 110, 101, 119]⟩ ⟨#[98, 97, 115, 101]⟩ = P := ⟨_, rfl⟩
 rw [HP] at hrn ⊢
 clear HP
 go_enter Tryz.func118, Tryz.ntmps118
 go_wp2_with (first
  | (go_at_call 119; refine hrn.mono ?_; rintro e w1 ⟨rfl, hp1⟩))
 go_ret
 exact ⟨rfl, hp1⟩
end
end Go.Proofs.YtikkieaokfailaaGreatDoor

namespace Go.Proofs.YtikkieaokfailaaGreatDoor
open Go.RowKit Go.Joins
def ifRoomL (x : Nat × Ch × Bool × Dk) (r : Nat × Bool × Dk) : Nat × Ch × Bool × Dk := if x.1 = 8 then ((if r.1 ≠ 0 then r.1 else 8), x.2.1, r.2) else x
def room1 (x : Nat × Ch × Bool × Dk) : Nat × Ch × Bool × Dk := ifRoomL x (remC x.2.1 x.2.2.1 x.2.2.2)
def room2 (x : Nat × Ch × Bool × Dk) : Nat × Ch × Bool × Dk := ifRoomL x (back2 x.2.1 x.2.2.1 x.2.2.2)
def rb4L (l : Lg) (rs : List (List Int)) (c : Ch) (x : Nat × Bool × Dk) : Nat × Lg × Dk :=
 if x.1 ≠ 0 then (x.1, ⟨l.most, l.recs, l.ch, x.2.1⟩, x.2.2) else ((remC l.ch x.2.1 x.2.2).1, ⟨l.most, rs, c, (remC l.ch x.2.1 x.2.2).2.1⟩, (remC l.ch x.2.1 x.2.2).2.2)
def rb3L (l : Lg) (rs : List (List Int)) (c : Ch) (x : Nat × Bool × Dk) : Nat × Lg × Dk :=
 if x.1 ≠ 0 then (x.1, ⟨l.most, l.recs, l.ch, x.2.1⟩, x.2.2) else rb4L l rs c (stp x.2.1 x.2.2 (renameK x.2.2 sNew sBase))
def rb2L (l : Lg) (rs : List (List Int)) (x : Nat × Ch × Bool × Dk) : Nat × Lg × Dk :=
 if x.1 ≠ 0 then (x.1, ⟨l.most, l.recs, l.ch, x.2.2.1⟩, x.2.2.2) else rb3L l rs x.2.1 (stp x.2.2.1 x.2.2.2 (syncK x.2.2.2 sNew))
def rb1L (l : Lg) (rs : List (List Int)) (x : Nat × Ch × Bool × Dk) : Nat × Lg × Dk :=
 if x.1 ≠ 0 then (x.1, ⟨l.most, l.recs, l.ch, x.2.2.1⟩, x.2.2.2) else rb2L l rs (room2 (wrB x.2.1 x.2.2.1 x.2.2.2))
def rebaseL (l : Lg) (k : Dk) (rs : List (List Int)) : Nat × Lg × Dk := rb1L l rs (room1 (layAllL l.most rs ⟨l.ch.g + 1, 0, 0, false⟩ l.dn k))
section
variable (w : World) (F : Nat → Prop) (lb d most : Nat) (v : Value) (dn : Bool) (k : Dk) (b p : Nat) (c0 c : Ch)
theorem room1_any (q : Nat) (h : LC w F lb d most v dn k b 0 c0 c) (hb : b ≠ lb) (hP : Pf w F lb) (hPb : 0 < b) (hp : w.heap[p]? = some (.cells #[.pointer (some ⟨lb, 0, none⟩)] 48 (0, 0))) (np : ¬ F p ∧ p ≠ lb ∧ p ≠ b) (hg : c.g < 18446744073709551616) (hi : c.cnt ≤ 10000) (hz : c.size ≤ 1000000000) (hmo : most ≤ 1000000000)
  (a : Option Addr) (n cc : Nat) (rs : List (List Int)) (hq : w.heap[q]? = some (.cells #[.slice a n cc] 30 (0, 0))) (hR : RRd w a n rs) (hnS : RNot w a n (fun i => F i ∨ i = lb ∨ i = b)) (hn : n ≤ 10000) (hrl : ∀ r ∈ rs, r.length ≤ 1048576) (hst : k.steps + 3 * n + c.cnt < 999980) (hfl : k.fs.length + 2 * n < 999980) :
  Calls Tryz.prog 108 #[.pointer (some ⟨lb, 0, none⟩), .func (.func 109) #[] #[.pointer (some ⟨p, 0, none⟩), .pointer (some ⟨b, 0, none⟩), .pointer (some ⟨q, 0, none⟩)], .func (.func 111) #[] #[.pointer (some ⟨p, 0, none⟩), .pointer (some ⟨b, 0, none⟩)]] w fun e w' => Gs (room1 (layAllL most rs c dn k)).1 e ∧ Lcp w F lb d most v (room1 (layAllL most rs c dn k)).2.2.1 (room1 (layAllL most rs c dn k)).2.2.2 b 0 c0 (room1 (layAllL most rs c dn k)).2.1 w' := by
 obtain ⟨g1, g2, g3, g4⟩ := layAll_gr most rs c dn k
 have hlen := hR.len
 rw [hlen] at g1 g2 g4
 have h1 := attempt_C 109 #[.pointer (some ⟨p, 0, none⟩), .pointer (some ⟨b, 0, none⟩), .pointer (some ⟨q, 0, none⟩)] (layAllL most rs c dn k).1 w F lb d most v dn (layAllL most rs c dn k).2.2.1 k (layAllL most rs c dn k).2.2.2 b c0 c (layAllL most rs c dn k).2.1 h (enters_of Tryz.func109 (by kernel_rfl) rfl) (fun hL hb0 => rb1_any _ F lb d most v dn k b p c0 c q hL (hP.below hb0) hPb (box_below hp hb0) hg (by omega) hz hmo a n cc rs (box_below hq hb0) (hR.below hb0) (hnS.keep hR (Keep.ofBelow (S := fun _ => False) hb0) ⟨fun _ _ h => h, fun _ _ _ _ _ _ _ _ _ _ _ h => h⟩) hn hrl (by omega) (by omega))
 generalize layAllL most rs c dn k = x at *
 obtain ⟨e1, c1, dn1, k1⟩ := x
 dsimp only at g1 g2 g3 g4 h1
 have h2 := ifRoom_any (.pointer (some ⟨lb, 0, none⟩)) 109 111 _ #[.pointer (some ⟨p, 0, none⟩), .pointer (some ⟨b, 0, none⟩)] e1 (remC c1 dn1 k1).1 _ (fun w' => Lcp w F lb d most v (remC c1 dn1 k1).2.1 (remC c1 dn1 k1).2.2 b 0 c0 c1 w') w (enters_of Tryz.func111 (by kernel_rfl) rfl) h1 (fun _ w1 hP1 => by
  obtain ⟨F1, hL1, hk1, hF1⟩ := hP1
  have hk1' : Keep (fun i => F i ∨ i = lb ∨ i = b) w w1 := hk1
  refine (rb2_any w1 F1 lb d most v dn1 k1 b p c0 c1 hL1 hb (hP.next3 hPb hk1 hF1) (box_keep hp hk1 (fun h9 => by
   rcases h9 with h9 | h9 | h9
   ·exact np.1 h9
   ·exact np.2.1 h9
   ·exact np.2.2 h9)) (by omega) (by omega) (by omega)).mono ?_
  rintro e w2 ⟨h3, h4⟩
  exact ⟨h3, Lcp.next hk1 hF1 h4⟩)
 refine h2.mono ?_
 rintro e w' ⟨h3, h4⟩
 unfold room1 ifRoomL
 dsimp only
 by_cases h8 : e1 = 8
 ·rw [if_pos h8] at h3 h4 ⊢
  exact ⟨h3, h4⟩
 ·rw [if_neg h8] at h3 h4 ⊢
  exact ⟨h3, h4⟩
theorem room2_any (h : LC w F lb d most v dn k b 0 c0 c) (hb : b ≠ lb) (hP : Pf w F lb) (hPb : 0 < b) (hp : w.heap[p]? = some (.cells #[.pointer (some ⟨lb, 0, none⟩)] 48 (0, 0))) (np : ¬ F p ∧ p ≠ lb ∧ p ≠ b) (hpl : p < w.heap.size) (hg : c.g < 18446744073709551616) (hi : c.cnt ≤ 100000) (hst : k.steps + c.cnt < 999980) (hfl : k.fs.length < 999980) :
  Calls Tryz.prog 108 #[.pointer (some ⟨lb, 0, none⟩), .func (.func 113) #[] #[.pointer (some ⟨p, 0, none⟩), .pointer (some ⟨b, 0, none⟩)], .func (.func 115) #[] #[.pointer (some ⟨p, 0, none⟩), .pointer (some ⟨b, 0, none⟩)]] w fun e w' => Gs (room2 (wrB c dn k)).1 e ∧ Lcp w F lb d most v (room2 (wrB c dn k)).2.2.1 (room2 (wrB c dn k)).2.2.2 b 0 c0 (room2 (wrB c dn k)).2.1 w' := by
 have g1 : (wrB c dn k).2.2.2.steps ≤ k.steps + 1 := stp_gr dn k _ (app_gr k _ _).1
 have g3 : (wrB c dn k).2.1 = c := rfl
 have h1 := attempt_C 113 #[.pointer (some ⟨p, 0, none⟩), .pointer (some ⟨b, 0, none⟩)] (wrB c dn k).1 w F lb d most v dn (wrB c dn k).2.2.1 k (wrB c dn k).2.2.2 b c0 c (wrB c dn k).2.1 h (enters_of Tryz.func113 (by kernel_rfl) rfl) (fun hL hb0 => rb3_any _ F lb d most v dn k b p c0 c hL hb (box_below hp hb0) ⟨np.1, np.2.1⟩ (by omega) (by omega))
 generalize wrB c dn k = x at *
 obtain ⟨e1, c1, dn1, k1⟩ := x
 dsimp only at g1 g3 h1
 subst g3
 have h2 := ifRoom_any (.pointer (some ⟨lb, 0, none⟩)) 113 115 _ #[.pointer (some ⟨p, 0, none⟩), .pointer (some ⟨b, 0, none⟩)] e1 (back2 c1 dn1 k1).1 _ (fun w' => Lcp w F lb d most v (back2 c1 dn1 k1).2.1 (back2 c1 dn1 k1).2.2 b 0 c0 c1 w') w (enters_of Tryz.func115 (by kernel_rfl) rfl) h1 (fun _ w1 hP1 => by
  obtain ⟨F1, hL1, hk1, hF1⟩ := hP1
  refine (rb4_any w1 F1 lb d most v dn1 k1 b p c0 c1 hL1 hb (hP.next3 hPb hk1 hF1) (box_keep hp hk1 (fun h9 => by
   rcases h9 with h9 | h9 | h9
   ·exact np.1 h9
   ·exact np.2.1 h9
   ·exact np.2.2 h9)) ⟨fun h9 => (hF1 p h9).elim np.1 (fun h9 => by omega), np.2.1⟩ (by omega) (by omega) (by omega)).mono ?_
  rintro e w2 ⟨h3, h4⟩
  exact ⟨h3, Lcp.next hk1 hF1 h4⟩)
 refine h2.mono ?_
 rintro e w' ⟨h3, h4⟩
 unfold room2 ifRoomL
 dsimp only
 by_cases h8 : e1 = 8
 ·rw [if_pos h8] at h3 h4 ⊢
  exact ⟨h3, h4⟩
 ·rw [if_neg h8] at h3 h4 ⊢
  exact ⟨h3, h4⟩
end
end Go.Proofs.YtikkieaokfailaaGreatDoor

namespace Go.Proofs.YtikkieaokfailaaGreatDoor
open Go.RowKit Go.Joins
theorem remC_gr (c : Ch) (dn : Bool) (k : Dk) : (remC c dn k).2.2.steps ≤ k.steps + c.cnt ∧ (remC c dn k).2.2.fs.length ≤ k.fs.length := by
 have h := remAll_gr (segs c.g 0 c.cnt) dn k
 rw [segs_len] at h
 exact h
theorem room1_gr (x : Nat × Ch × Bool × Dk) : (room1 x).2.2.2.steps ≤ x.2.2.2.steps + x.2.1.cnt ∧ (room1 x).2.2.2.fs.length ≤ x.2.2.2.fs.length ∧ (room1 x).2.1 = x.2.1 := by
 obtain ⟨h1, h2⟩ := remC_gr x.2.1 x.2.2.1 x.2.2.2
 unfold room1 ifRoomL
 split
 ·exact ⟨h1, h2, rfl⟩
 ·exact ⟨Nat.le_add_right _ _, Nat.le_refl _, rfl⟩
theorem remNew_gr (dn : Bool) (k : Dk) : (remNewL dn k).2.2.steps ≤ k.steps + 1 ∧ (remNewL dn k).2.2.fs.length ≤ k.fs.length := by
 unfold remNewL
 split
 ·exact stpR_gr dn k sNew
 ·exact ⟨Nat.le_succ _, Nat.le_refl _⟩
theorem back2_gr (c : Ch) (dn : Bool) (k : Dk) : (back2 c dn k).2.2.steps ≤ k.steps + c.cnt + 1 ∧ (back2 c dn k).2.2.fs.length ≤ k.fs.length := by
 obtain ⟨h1, h2⟩ := remC_gr c dn k
 unfold back2
 split
 ·exact ⟨by omega, h2⟩
 ·obtain ⟨h3, h4⟩ := remNew_gr (remC c dn k).2.1 (remC c dn k).2.2
  exact ⟨by omega, by omega⟩
theorem room2_gr (c : Ch) (dn : Bool) (k : Dk) : (room2 (wrB c dn k)).2.2.2.steps ≤ k.steps + c.cnt + 2 ∧ (room2 (wrB c dn k)).2.2.2.fs.length ≤ k.fs.length + 1 ∧ (room2 (wrB c dn k)).2.1 = c := by
 have g1 : (wrB c dn k).2.2.2.steps ≤ k.steps + 1 := stp_gr dn k _ (app_gr k _ _).1
 have g2 : (wrB c dn k).2.2.2.fs.length ≤ k.fs.length + 1 := stp_fl dn k _ (app_gr k _ _).2
 have g3 : (wrB c dn k).2.1 = c := rfl
 generalize wrB c dn k = x at *
 obtain ⟨h1, h2⟩ := back2_gr x.2.1 x.2.2.1 x.2.2.2
 rw [g3] at h1 h2
 unfold room2 ifRoomL
 rw [g3]
 split
 ·exact ⟨by dsimp only; omega, by dsimp only; omega, rfl⟩
 ·exact ⟨by omega, by omega, g3⟩
theorem rename_gr (k : Dk) (s t : Nm) : (renameK k s t).2.steps ≤ k.steps + 1 ∧ (renameK k s t).2.fs.length ≤ k.fs.length + 1 := by
 unfold renameK
 split
 ·exact ⟨Nat.le_succ _, Nat.le_succ _⟩
 ·split
  ·exact ⟨Nat.le_succ _, Nat.le_succ _⟩
  ·unfold stepK
   split
   ·exact ⟨Nat.le_succ _, Nat.le_succ _⟩
   ·split
    ·exact ⟨Nat.le_succ _, Nat.le_succ _⟩
    ·split
     ·exact ⟨Nat.le_succ _, Nat.le_succ _⟩
     ·split
      ·exact ⟨Nat.le_succ _, Nat.le_succ _⟩
      ·obtain ⟨kp, hp⟩ : ∃ kp, passK k = kp := ⟨_, rfl⟩
       have h1 : kp.2.steps ≤ k.steps + 1 ∧ kp.2.fs = k.fs := by
        rw [← hp]
        unfold passK
        split
        ·exact ⟨Nat.le_refl _, rfl⟩
        ·exact ⟨Nat.le_succ _, rfl⟩
        ·exact ⟨Nat.le_refl _, rfl⟩
       rw [hp]
       split
       ·exact ⟨h1.1, by rw [h1.2]; exact Nat.le_succ _⟩
       ·refine ⟨h1.1, ?_⟩
        dsimp only
        rw [h1.2]
        exact Nat.le_trans (len_put _ _ _) (Nat.succ_le_succ (len_drop _ _))
theorem RNot.mono {w : World} {a : Option Addr} {n : Nat} {S T : Nat → Prop} (h : RNot w a n S) (hT : ∀ i, T i → S i) : RNot w a n T :=
 ⟨fun ad e ht => h.1 ad e (hT _ ht), fun b off e j hj aj nj cj hc ad ha ht => h.2 b off e j hj aj nj cj hc ad ha (hT _ ht)⟩
theorem LogAt.ofC {w X w' : World} {F H : Nat → Prop} {lb d : Nat} {l : Lg} {k k' : Dk} {v : Value} {dn' : Bool} {b : Nat} {c' : Ch} (h : LogAt w F H lb d l k) (hRc : RcA w H v l.recs) (hB : Below w.heap.size w X) (hb : w.heap.size ≤ b) (hPb : 0 < b) (hlb : lb < w.heap.size) (hp : Lcp X F lb d l.most v dn' k' b 0 l.ch c' w') :
  ∃ F', LD w' F' lb d l.most v l.ch dn' k' ∧ RcA w' H v l.recs ∧ Keep (fun i => F i ∨ H i ∨ i = lb) w w' ∧ (∀ i, F' i → F i ∨ w.heap.size ≤ i) ∧ (∀ i, H i → ¬ F' i) ∧ Pf w' F' lb ∧ (∀ i, H i → i < w'.heap.size) := by
 obtain ⟨F', hL, hk, hF⟩ := hp
 have hs := hB.size
 have hks := hk.size
 have hHl := h.lt
 have hF' : ∀ i, F' i → F i ∨ w.heap.size ≤ i := fun i hi => (hF i hi).imp id (fun h => by omega)
 refine ⟨F', hL.ld _ _ _ _ _ _ _ _ _ _ _ (by omega), (hRc.keep (S := fun _ => False) (Keep.ofBelow hB) (fun _ _ h => h) (fun _ h => h)).keep hk (fun i hi hs => ?_) (fun _ h => h), (Keep.ofBelow hB).andThen hk (fun i hi hs => ?_), hF', fun i hi hf => ?_, (h.pf.below hB).next3 hPb hk hF, fun i hi => by have := hHl i hi; omega⟩
 ·rcases hs with hs | hs | hs
  ·exact h.hf i hi hs
  ·rw [hs] at hi; exact h.hl hi
  ·have := hHl i hi; omega
 ·rcases hs with hs | hs | hs
  ·exact Or.inl hs
  ·exact Or.inr (Or.inr hs)
  ·omega
 ·rcases hF' i hf with h1 | h1
  ·exact h.hf i hi h1
  ·have := hHl i hi; omega
theorem LogAt.ofC' {w X w' : World} {F H : Nat → Prop} {lb d : Nat} {l : Lg} {k k' : Dk} {v : Value} {dn' : Bool} {b : Nat} {c' : Ch} (h : LogAt w F H lb d l k) (hRc : RcA w H v l.recs) (hB : Below w.heap.size w X) (hb : w.heap.size ≤ b) (hPb : 0 < b) (hlb : lb < w.heap.size) (hp : Lcp X F lb d l.most v dn' k' b 0 l.ch c' w') :
  Lgp w F H lb d ⟨l.most, l.recs, l.ch, dn'⟩ k' w' := by
 obtain ⟨F', h1, h2, h3, h4, h5, h6, h7⟩ := h.ofC hRc hB hb hPb hlb hp
 exact ⟨F', H, ⟨⟨v, h1, h2⟩, h5, h.hl, h7, h6, h.ph⟩, h3, h4, fun i hi => Or.inl hi⟩
set_option maxRecDepth 100000 in
set_option maxHeartbeats 4000000 in
theorem rebase_any (w : World) (F H : Nat → Prop) (lb d : Nat) (l : Lg) (k : Dk) (h : LogAt w F H lb d l k) (hg : l.ch.g < 18446744073709551615) (hcnt : l.ch.cnt ≤ 10000) (hmo : l.most ≤ 1000000000)
  (a : Option Addr) (n cc : Nat) (rs : List (List Int)) (hR : RRd w a n rs) (hnS : RNot w a n (fun i => F i ∨ i = lb ∨ w.heap.size ≤ i)) (hn : n ≤ 10000) (hrl : ∀ r ∈ rs, r.length ≤ 1048576) (hst : k.steps < 900000) (hfl : k.fs.length < 900000) :
  Calls Tryz.prog 73 #[.pointer (some ⟨lb, 0, none⟩), .slice a n cc] w fun e w' => Gs (rebaseL l k rs).1 e ∧ Lgp w F H lb d (rebaseL l k rs).2.1 (rebaseL l k rs).2.2 w' := by
 have hmf : ∀ (fn : Fn) (first cap : Array Value) (w : World), (Instr.makeFunc fn first cap).run Tryz.prog w = .ok (.func fn first cap) w := fun _ _ _ _ => rfl
 obtain ⟨R, HR⟩ : ∃ R, Hid (rebaseL l k rs = R) := ⟨_, rfl⟩
 rw [HR.out]
 obtain ⟨v, hLD, hRc⟩ := h.ex
 have hlb := hLD.lt
 have hFl := hLD.D.lt
 have hgp := h.pf.pw.at
 have hgz : (l.ch.g : Int) < 18446744073709551615 := by omega
 obtain ⟨W, hW⟩ : ∃ W, ((w.alloc (.cells #[.pointer (some ⟨lb, 0, none⟩)] 48)).alloc (.cells #[.slice a n cc] 30)) = W := ⟨_, rfl⟩
 have hB : Below w.heap.size w W := by rw [← hW]; exact ((Below.refl _ _).alloc (Nat.le_refl _) _).alloc (by simp) _
 have p0 : W.heap[w.heap.size]? = some (.cells #[.pointer (some ⟨lb, 0, none⟩)] 48 (0, 0)) := by rw [← hW]; exact alloc2_at w _ _
 have p1 : W.heap[w.heap.size + 1]? = some (.cells #[.slice a n cc] 30 (0, 0)) := by rw [← hW]; exact (by simpa using alloc_at (w.alloc (.cells #[.pointer (some ⟨lb, 0, none⟩)] 48)) (.cells #[.slice a n cc] 30))
 have hWs : W.heap.size = w.heap.size + 2 := by rw [← hW]; simp
 have c0 := box_cell p0
 have c1 := box_cell p1
 have q3W := (hLD.below hB).c3
 go_enter Tryz.func73, Tryz.ntmps73
 go_upto_region 1 with fail
 clear hW
 go_upto_region 2 with fail
 have hbW : Below W.heap.size W (W.alloc (.cells #[.int .u64 ((l.ch.g : Int) + 1), .int .i64 0, .int .i64 0, .bool false] 117)) := (Below.refl _ _).alloc (Nat.le_refl _) _
 have x2 : (W.alloc (.cells #[.int .u64 ((l.ch.g : Int) + 1), .int .i64 0, .int .i64 0, .bool false] 117)).heap[w.heap.size + 2]? = some (.cells (chs ⟨l.ch.g + 1, 0, 0, false⟩) 117 (0, 0)) := by
  rw [← hWs]
  exact alloc_at W _
 have hXs : (W.alloc (.cells #[.int .u64 ((l.ch.g : Int) + 1), .int .i64 0, .int .i64 0, .bool false] 117)).heap.size = w.heap.size + 3 := by
  have : (W.alloc (.cells #[.int .u64 ((l.ch.g : Int) + 1), .int .i64 0, .int .i64 0, .bool false] 117)).heap.size = W.heap.size + 1 := by simp
  omega
 have x0 := box_below p0 hbW
 have x1 := box_below p1 hbW
 have hBX : Below w.heap.size w (W.alloc (.cells #[.int .u64 ((l.ch.g : Int) + 1), .int .i64 0, .int .i64 0, .bool false] 117)) := hB.trans (hbW.mono (by omega))
 generalize W.alloc (.cells #[.int .u64 ((l.ch.g : Int) + 1), .int .i64 0, .int .i64 0, .bool false] 117) = X at *
 clear hbW hB p0 p1 c0 c1 q3W hWs
 obtain ⟨p, hpd⟩ : ∃ p, w.heap.size = p := ⟨_, rfl⟩
 have hbl : w.heap.size ≤ p + 2 := by omega
 have hPb : 0 < p + 2 := by omega
 rw [hpd] at x0 x1 x2 hXs ⊢
 have hblb : p + 2 ≠ lb := by omega
 have np : ∀ i, i = p ∨ i = p + 1 → ¬ (F i ∨ i = lb ∨ i = p + 2) := fun i hi h9 => by
  rcases h9 with h9 | h9 | h9
  ·have := hFl i h9; omega
  ·omega
  ·omega
 have npb : ¬ F (p + 2) := fun h9 => by have := hFl _ h9; omega
 have hLC : LC X F lb d l.most v l.dn k (p + 2) 0 l.ch ⟨l.ch.g + 1, 0, 0, false⟩ := ⟨by rw [if_neg hblb]; exact hLD.below hBX, fun e => absurd e hblb, fun _ => ⟨rfl, npb, x2⟩⟩
 have hPX := h.pf.below hBX
 have hRX := hR.below hBX
 have hnX : RNot X a n (fun i => F i ∨ i = lb ∨ w.heap.size ≤ i) := hnS.keep hR (Keep.ofBelow (S := fun _ => False) hBX) ⟨fun _ _ h => h, fun _ _ _ _ _ _ _ _ _ _ _ h => h⟩
 have hr1 := room1_any X F lb d l.most v l.dn k (p + 2) p l.ch ⟨l.ch.g + 1, 0, 0, false⟩ (p + 1) hLC hblb hPX hPb x0 ⟨fun h9 => np p (Or.inl rfl) (Or.inl h9), by omega, by omega⟩ (by show l.ch.g + 1 < _; omega) (Nat.zero_le _) (Nat.zero_le _) hmo a n cc rs x1 hRX (hnX.mono (fun i hi => hi.elim Or.inl (fun h9 => Or.inr (h9.elim Or.inl (fun h8 => Or.inr (by omega)))))) hn hrl (by show k.steps + 3 * n + 0 < _; omega) (by omega)
 obtain ⟨g1, g2, g3⟩ := room1_gr (layAllL l.most rs ⟨l.ch.g + 1, 0, 0, false⟩ l.dn k)
 obtain ⟨g4, g5, g6, g7⟩ := layAll_gr l.most rs ⟨l.ch.g + 1, 0, 0, false⟩ l.dn k
 have hlen := hR.len
 rw [hlen] at g4 g5 g7
 have h1R : rb1L l rs (room1 (layAllL l.most rs ⟨l.ch.g + 1, 0, 0, false⟩ l.dn k)) = R := HR.out
 generalize layAllL l.most rs ⟨l.ch.g + 1, 0, 0, false⟩ l.dn k = L0 at *
 obtain ⟨Y, HY⟩ : ∃ Y, room1 L0 = Y := ⟨_, rfl⟩
 rw [HY] at hr1 g1 g2 g3 h1R
 clear HY HR
 have x0c := box_cell x0
 have x1c := box_cell x1
 obtain ⟨e2, c2, dn2, k2⟩ := Y
 dsimp only at hr1 g1 g2 g3 g6
 have g8 : c2.cnt ≤ 10001 := by rw [g3]; dsimp only at g7; omega
 have g9 : c2.g < 18446744073709551616 := by rw [g3, g6]; omega
 have hs2 : k2.steps < 940100 := by rw [g3] at g8; omega
 have hf2 : k2.fs.length < 920100 := by omega
 clear g1 g2 g3 g4 g5 g6 g7 hlen
 by_cases h02 : e2 = 0
 ·subst h02
  go_upto_region 3 with (first
   | (go_at_call 108; refine (hr1.mono (fun e w' h => And.intro (h.1.elim (fun k => k.2) (fun k => absurd rfl k.1)) h.2 : ∀ e w', _ → (e = .returned (.tuple #[]) ∧ _))).mono ?_; rintro e w2 ⟨rfl, F2, hL2, hk2, hF2⟩))
  clear hr1
  have y0 := box_keep x0 hk2 (np p (Or.inl rfl))
  have y0c := box_cell y0
  have hks2 := hk2.size
  have np2 : ¬ F2 p := fun h9 => (hF2 p h9).elim (fun h8 => np p (Or.inl rfl) (Or.inl h8)) (fun h8 => by omega)
  have hr2 := room2_any w2 F2 lb d l.most v dn2 k2 (p + 2) p l.ch c2 hL2 hblb (hPX.next3 hPb hk2 hF2) hPb y0 ⟨np2, by omega, by omega⟩ (by omega) g9 (by omega) (by omega) (by omega)
  obtain ⟨g1, g2, g3⟩ := room2_gr c2 dn2 k2
  have h2R : rb2L l rs (room2 (wrB c2 dn2 k2)) = R := by rw [← h1R]; unfold rb1L; rw [if_neg (by simp)]
  generalize room2 (wrB c2 dn2 k2) = Z at *
  obtain ⟨e3, c3, dn3, k3⟩ := Z
  dsimp only at hr2 g1 g2 g3
  subst g3
  clear h1R
  by_cases h03 : e3 = 0
  ·subst h03
   go_upto_region 4 with (first
    | (go_at_call 108; refine (hr2.mono (fun e w' h => And.intro (h.1.elim (fun k => k.2) (fun k => absurd rfl k.1)) h.2 : ∀ e w', _ → (e = .returned (.tuple #[]) ∧ _))).mono ?_; rintro e w3 ⟨rfl, hp3⟩))
   obtain ⟨F3, hL3, hk3, hF3⟩ := Lcp.next hk2 hF2 hp3
   clear hr2 y0 y0c np2 hk2 hF2 hp3 hks2 hL2
   have y0 := box_keep x0 hk3 (np p (Or.inl rfl))
   have y0c := box_cell y0
   have hks3 := hk3.size
   have hsy := ssync_any lb d l.most F3 v l.ch dn3 k3 sNew (by omega) (by omega) w3 (hL3.ld _ _ _ _ _ _ _ _ _ _ _ hblb)
   have g3 := stp_gr dn3 k3 (syncK k3 sNew) (sync_gr k3 sNew).1
   have g4 := stp_fl dn3 k3 (syncK k3 sNew) (sync_gr k3 sNew).2
   have h3R : rb3L l rs c3 (stp dn3 k3 (syncK k3 sNew)) = R := by rw [← h2R]; unfold rb2L; rw [if_neg (by simp)]
   generalize stp dn3 k3 (syncK k3 sNew) = Z4 at *
   obtain ⟨e4, dn4, k4⟩ := Z4
   dsimp only at hsy g3 g4
   unfold sNew at hsy
   clear h2R
   by_cases h04 : e4 = 0
   ·subst h04
    go_upto_region 5 with (first
     | (go_at_call 104; refine (hsy.mono (fun e w' h => And.intro (h.1.elim (fun k => k.2) (fun k => absurd rfl k.1)) h.2 : ∀ e w', _ → (e = .returned (.tuple #[]) ∧ _))).mono ?_; rintro e w4 ⟨rfl, hp4⟩))
    obtain ⟨F4, hL4, hk4, hF4⟩ := Lcp.next hk3 hF3 (hL3.lp _ _ _ _ _ _ _ _ _ _ _ hblb hp4)
    clear hsy y0 y0c hk3 hF3 hp4 hks3 hL3
    have y0 := box_keep x0 hk4 (np p (Or.inl rfl))
    have y0c := box_cell y0
    have hks4 := hk4.size
    have hLD4 := hL4.ld _ _ _ _ _ _ _ _ _ _ _ hblb
    have hsr := step_any 118 #[.pointer (some ⟨p, 0, none⟩)] (renameK k4 sNew sBase) w4 F4 lb d l.most v l.ch dn4 k4 hLD4 (enters_of Tryz.func118 (by kernel_rfl) rfl) (rb5_any w4 F4 lb d l.most v dn4 k4 p l.ch hLD4 y0 (by omega) (by omega))
    have g5 := stp_gr dn4 k4 (renameK k4 sNew sBase) (rename_gr k4 _ _).1
    have g6 := stp_fl dn4 k4 (renameK k4 sNew sBase) (rename_gr k4 _ _).2
    have h4R : rb4L l rs c3 (stp dn4 k4 (renameK k4 sNew sBase)) = R := by rw [← h3R]; unfold rb3L; rw [if_neg (by simp)]
    generalize stp dn4 k4 (renameK k4 sNew sBase) = Z5 at *
    obtain ⟨e5, dn5, k5⟩ := Z5
    dsimp only at hsr g5 g6
    clear h3R
    by_cases h05 : e5 = 0
    ·subst h05
     go_upto_region 6 with (first
      | (go_at_call 117; refine (hsr.mono (fun e w' h => And.intro (h.1.elim (fun k => k.2) (fun k => absurd rfl k.1)) h.2 : ∀ e w', _ → (e = .returned (.tuple #[]) ∧ _))).mono ?_; rintro e w5 ⟨rfl, hp5⟩))
     obtain ⟨F5, hL5, hk5, hF5⟩ := Lcp.next hk4 hF4 (hL4.lp _ _ _ _ _ _ _ _ _ _ _ hblb hp5)
     clear hsr y0 y0c hk4 hF4 hp5 hks4 hL4 hLD4
     have y0 := box_keep x0 hk5 (np p (Or.inl rfl))
     have y0c := box_cell y0
     have y1 := box_keep x1 hk5 (np (p + 1) (Or.inr rfl))
     have y1c := box_cell y1
     have hks5 := hk5.size
     have hLD5 := hL5.ld _ _ _ _ _ _ _ _ _ _ _ hblb
     have z3 := hLD5.c3
     have z4 := hLD5.c4
     have z5 := hLD5.c5
     have z6 := hLD5.c6
     go_upto_region 7 with fail
     have hb6 : Below w5.heap.size w5 (w5.alloc (.cells #[.int .u64 (l.ch.g : Int), .int .i64 (l.ch.cnt : Int), .int .i64 (l.ch.size : Int), .bool l.ch.loose] 117)) := (Below.refl _ _).alloc (Nat.le_refl _) _
     have y2 : (w5.alloc (.cells #[.int .u64 (l.ch.g : Int), .int .i64 (l.ch.cnt : Int), .int .i64 (l.ch.size : Int), .bool l.ch.loose] 117)).heap[w5.heap.size]? = some (.cells (chs l.ch) 117 (0, 0)) := alloc_at w5 _
     obtain ⟨o, ho⟩ : ∃ o, w5.heap.size = o := ⟨_, rfl⟩
     rw [ho] at y2 ⊢
     have hL6 := hL5.below hb6
     have hP6 := ((hPX.next3 hPb hk5 hF5).below hb6)
     have u0 := box_below y0 hb6
     have u1 := box_below y1 hb6
     have hs6 : (w5.alloc (.cells #[.int .u64 (l.ch.g : Int), .int .i64 (l.ch.cnt : Int), .int .i64 (l.ch.size : Int), .bool l.ch.loose] 117)).heap.size = o + 1 := by simp [ho]
     generalize w5.alloc (.cells #[.int .u64 (l.ch.g : Int), .int .i64 (l.ch.cnt : Int), .int .i64 (l.ch.size : Int), .bool l.ch.loose] 117) = V at *
     clear z3 z4 z5 z6 y0c y1c
     have hbD : Below V.heap.size V V.drew := (Below.refl _ _).drew
     have hL7 := hL6.below hbD
     have hP7 := hP6.below hbD
     have b0 : V.drew.cell? ⟨p + 2, 0, none⟩ = some (.int .u64 (c3.g : Int)) := hL7.cell 0 (by omega)
     have b1 : V.drew.cell? ⟨p + 2, 1, none⟩ = some (.int .i64 (c3.cnt : Int)) := hL7.cell 1 (by omega)
     have b2 : V.drew.cell? ⟨p + 2, 2, none⟩ = some (.int .i64 (c3.size : Int)) := hL7.cell 2 (by omega)
     have b3 : V.drew.cell? ⟨p + 2, 3, none⟩ = some (.bool c3.loose) := hL7.cell 3 (by omega)
     have u0D := box_below u0 hbD
     have u1D := box_below u1 hbD
     have u2D := box_below y2 hbD
     have HS0 : V.drew.cell? ⟨p, 0, none⟩ = some (.pointer (some ⟨lb, 0, none⟩)) ∧ V.drew.cell? ⟨p + 1, 0, none⟩ = some (.slice a n cc) ∧ V.drew.cell? ⟨p + 2, 0, none⟩ = some (.int .u64 (c3.g : Int)) ∧ V.drew.cell? ⟨p + 2, 1, none⟩ = some (.int .i64 (c3.cnt : Int)) ∧ V.drew.cell? ⟨p + 2, 2, none⟩ = some (.int .i64 (c3.size : Int)) ∧ V.drew.cell? ⟨p + 2, 3, none⟩ = some (.bool c3.loose) := ⟨box_cell u0D, box_cell u1D, b0, b1, b2, b3⟩
     have hRV : RRd V.drew a n rs := ((hRX.keepS (hnX.mono (fun i hi => hi.elim Or.inl (fun h9 => Or.inr (h9.elim Or.inl (fun h8 => Or.inr (by omega)))))) hk5).below hb6).below hbD
     have hsD : V.drew.heap.size = V.heap.size := rfl
     refine wp_region_lx (fun w' => w'.cell? ⟨p, 0, none⟩ = some (.pointer (some ⟨lb, 0, none⟩)) ∧ w'.cell? ⟨p + 1, 0, none⟩ = some (.slice a n cc) ∧ w'.cell? ⟨p + 2, 0, none⟩ = some (.int .u64 (c3.g : Int)) ∧ w'.cell? ⟨p + 2, 1, none⟩ = some (.int .i64 (c3.cnt : Int)) ∧ w'.cell? ⟨p + 2, 2, none⟩ = some (.int .i64 (c3.size : Int)) ∧ w'.cell? ⟨p + 2, 3, none⟩ = some (.bool c3.loose)) [] 11 (by kernel_rfl) (by kernel_rfl) ?_
     generalize V.drew = X7 at *
     refine lx_r 0 (.pointer (some ⟨lb, 0, none⟩)) HS0 ?_ (hv := fun w' hS => by have q := hS.1; first | (go_simp; rfl) | go_simp); simp only [lxa, lxb, lxc]
     refine lx_r 1 (.pointer (some ⟨lb, 0, none⟩)) HS0 ?_ (hv := fun w' hS => by have q := hS.1; first | (go_simp; rfl) | go_simp); simp only [lxa, lxb, lxc]
     refine lx_r 2 (.agg #[.int .u64 (c3.g : Int), .int .i64 (c3.cnt : Int), .int .i64 (c3.size : Int), .bool c3.loose]) HS0 ?_ (hv := fun w' hS => by have q1 := hS.2.2.1; have q2 := hS.2.2.2.1; have q3 := hS.2.2.2.2.1; have q4 := hS.2.2.2.2.2; first | (go_simp; rfl) | go_simp); simp only [lxa, lxb, lxc]
     refine lx_r 3 (.slice a n cc) HS0 ?_ (hv := fun w' hS => by have q := hS.2.1; first | (go_simp; rfl) | go_simp); simp only [lxa, lxb, lxc]
     refine lx_one 4 (by kernel_rfl) (stepT_call 120 ?a4 rfl rfl rfl ?r4 ?_)
     case r4 => first | (go_simp; rfl) | go_simp
     refine (clones_any a n cc rs X7 hRV (by omega) hrl).mono ?_
     rintro e w8 ⟨v8, rfl, hRc8, hb8⟩
     obtain ⟨av, cv, nv8, rfl⟩ : ∃ av cv nv8, v8 = .slice av nv8 cv := by
      obtain ⟨⟨vs, ov, _⟩, _⟩ := hRc8
      obtain ⟨av, cv, e⟩ := own_sl ov
      exact ⟨av, cv, _, e⟩
     have t8 : ∀ p x, X7.cell? p = some x → w8.cell? p = some x := fun p x hx => (hb8.cell (World.block_lt_of_cell? _ _ hx)).trans hx
     have HS8 := And.intro (t8 _ _ HS0.1) (And.intro (t8 _ _ HS0.2.1) (And.intro (t8 _ _ HS0.2.2.1) (And.intro (t8 _ _ HS0.2.2.2.1) (And.intro (t8 _ _ HS0.2.2.2.2.1) (t8 _ _ HS0.2.2.2.2.2)))))
     refine ⟨_, rfl, fun _ => HS8, ?_⟩
     simp only [lxa, lxb, lxc]
     refine lx_r 5 (.pointer (some ⟨lb, 0, none⟩)) HS8 ?_; simp only [lxa, lxb, lxc]
     refine lx_r 6 (.pointer (some ⟨lb, 3, none⟩)) HS8 ?_; simp only [lxa, lxb, lxc]
     have hL8 := hL7.below hb8
     have hLD8 := hL8.ld _ _ _ _ _ _ _ _ _ _ _ hblb
     have m3 := hLD8.c3
     have m4 := hLD8.c4
     have m5 := hLD8.c5
     have m6 := hLD8.c6
     have f3 := hLD8.fz 3
     have f4 := hLD8.fz 4
     have f5 := hLD8.fz 5
     have f6 := hLD8.fz 6
     have hkS : ∀ (w0 : World) i u, Keep (fun i => i = lb) w0 (w0.setCell ⟨lb, i, none⟩ u) := fun w0 i u => (Keep.refl (fun i => i = lb) w0).setCell (p := ⟨lb, i, none⟩) rfl u
     have hk9 : Keep (fun i => i = lb) w8 ((((w8.setCell ⟨lb, 3, none⟩ (.int .u64 (c3.g : Int))).setCell ⟨lb, 4, none⟩ (.int .i64 (c3.cnt : Int))).setCell ⟨lb, 5, none⟩ (.int .i64 (c3.size : Int))).setCell ⟨lb, 6, none⟩ (.bool c3.loose)) := (((hkS _ _ _).trans (hkS _ _ _)).trans (hkS _ _ _)).trans (hkS _ _ _)
     have hLD9 : LD ((((w8.setCell ⟨lb, 3, none⟩ (.int .u64 (c3.g : Int))).setCell ⟨lb, 4, none⟩ (.int .i64 (c3.cnt : Int))).setCell ⟨lb, 5, none⟩ (.int .i64 (c3.size : Int))).setCell ⟨lb, 6, none⟩ (.bool c3.loose)) F5 lb d l.most v c3 dn5 k5 :=
      (((hLD8.set 3 (.int .u64 (c3.g : Int)) (c' := ⟨c3.g, l.ch.cnt, l.ch.size, l.ch.loose⟩) rfl).set 4 (.int .i64 (c3.cnt : Int)) (c' := ⟨c3.g, c3.cnt, l.ch.size, l.ch.loose⟩) rfl).set 5 (.int .i64 (c3.size : Int)) (c' := ⟨c3.g, c3.cnt, c3.size, l.ch.loose⟩) rfl).set 6 (.bool c3.loose) rfl
     refine lx_one 7 (by kernel_rfl) (stepT_store (w' := (((w8.setCell ⟨lb, 3, none⟩ (.int .u64 (c3.g : Int))).setCell ⟨lb, 4, none⟩ (.int .i64 (c3.cnt : Int))).setCell ⟨lb, 5, none⟩ (.int .i64 (c3.size : Int))).setCell ⟨lb, 6, none⟩ (.bool c3.loose)) rfl rfl rfl ?r7 (fun _ => ?s7) ?_)
     case r7 => first | (go_simp; rfl) | (go_simp; done) | go_simp
     case s7 => exact ⟨hk9.cell (p := ⟨p, 0, none⟩) HS8.1 (by show ¬ p = lb; omega), hk9.cell (p := ⟨p + 1, 0, none⟩) HS8.2.1 (by show ¬ p + 1 = lb; omega), hk9.cell (p := ⟨p + 2, 0, none⟩) HS8.2.2.1 hblb, hk9.cell (p := ⟨p + 2, 1, none⟩) HS8.2.2.2.1 hblb, hk9.cell (p := ⟨p + 2, 2, none⟩) HS8.2.2.2.2.1 hblb, hk9.cell (p := ⟨p + 2, 3, none⟩) HS8.2.2.2.2.2 hblb⟩
     have HS9 := And.intro (hk9.cell (p := ⟨p, 0, none⟩) HS8.1 (by show ¬ p = lb; omega)) (And.intro (hk9.cell (p := ⟨p + 1, 0, none⟩) HS8.2.1 (by show ¬ p + 1 = lb; omega)) (And.intro (hk9.cell (p := ⟨p + 2, 0, none⟩) HS8.2.2.1 hblb) (And.intro (hk9.cell (p := ⟨p + 2, 1, none⟩) HS8.2.2.2.1 hblb) (And.intro (hk9.cell (p := ⟨p + 2, 2, none⟩) HS8.2.2.2.2.1 hblb) (hk9.cell (p := ⟨p + 2, 3, none⟩) HS8.2.2.2.2.2 hblb)))))
     clear m3 m4 m5 m6 f3 f4 f5 f6
     generalize (((w8.setCell ⟨lb, 3, none⟩ (.int .u64 (c3.g : Int))).setCell ⟨lb, 4, none⟩ (.int .i64 (c3.cnt : Int))).setCell ⟨lb, 5, none⟩ (.int .i64 (c3.size : Int))).setCell ⟨lb, 6, none⟩ (.bool c3.loose) = w9 at *
     refine lx_r 8 (.pointer (some ⟨lb, 0, none⟩)) HS9 ?_; simp only [lxa, lxb, lxc]
     refine lx_r 9 (.pointer (some ⟨lb, 2, none⟩)) HS9 ?_; simp only [lxa, lxb, lxc]
     have m2 := hLD9.c2
     have f2 := hLD9.fz 2
     refine lx_one 10 (by kernel_rfl) (stepT_store (w' := w9.setCell ⟨lb, 2, none⟩ (.slice av nv8 cv)) rfl rfl rfl ?r10 (fun _ => ?s10) ?_)
     case r10 => first | (go_simp; rfl) | (go_simp; done) | go_simp
     case s10 => exact ⟨(hkS w9 2 (.slice av nv8 cv)).cell (p := ⟨p, 0, none⟩) HS9.1 (by show ¬ p = lb; omega), (hkS w9 2 (.slice av nv8 cv)).cell (p := ⟨p + 1, 0, none⟩) HS9.2.1 (by show ¬ p + 1 = lb; omega), (hkS w9 2 (.slice av nv8 cv)).cell (p := ⟨p + 2, 0, none⟩) HS9.2.2.1 hblb, (hkS w9 2 (.slice av nv8 cv)).cell (p := ⟨p + 2, 1, none⟩) HS9.2.2.2.1 hblb, (hkS w9 2 (.slice av nv8 cv)).cell (p := ⟨p + 2, 2, none⟩) HS9.2.2.2.2.1 hblb, (hkS w9 2 (.slice av nv8 cv)).cell (p := ⟨p + 2, 3, none⟩) HS9.2.2.2.2.2 hblb⟩
     refine lx_nil (by kernel_rfl) ?_
     have hLDa : LD (w9.setCell ⟨lb, 2, none⟩ (.slice av nv8 cv)) F5 lb d l.most (.slice av nv8 cv) c3 dn5 k5 := hLD9.set 2 (.slice av nv8 cv) rfl
     have hka : Keep (fun i => i = lb) w8 (w9.setCell ⟨lb, 2, none⟩ (.slice av nv8 cv)) := hk9.trans (hkS w9 2 (.slice av nv8 cv))
     clear m2 f2 hk9 hLD9 HS9
     generalize w9.setCell ⟨lb, 2, none⟩ (.slice av nv8 cv) = wa at *
     have hs8 := hb8.size
     have hsa := hka.size
     have hF5l := hL5.L.D.lt
     have hs56 := hb6.size
     have r0 := (hka.cell (p := ⟨p, 0, none⟩) HS8.1 (by show ¬ p = lb; omega))
     have w8o := box_below u2D hb8
     have hao := box_keep w8o hka (show ¬ o = lb by omega)
     have r1 : wa.cell? ⟨o, 0, none⟩ = some (.int .u64 (l.ch.g : Int)) := by rw [cell_of_block hao]; rfl
     have r2 : wa.cell? ⟨o, 1, none⟩ = some (.int .i64 (l.ch.cnt : Int)) := by rw [cell_of_block hao]; rfl
     have r3 : wa.cell? ⟨o, 2, none⟩ = some (.int .i64 (l.ch.size : Int)) := by rw [cell_of_block hao]; rfl
     have r4 : wa.cell? ⟨o, 3, none⟩ = some (.bool l.ch.loose) := by rw [cell_of_block hao]; rfl
     have hPa : Pf wa F5 lb := (hP7.below hb8).next (hka.mono (fun i hi => Or.inr hi)) (fun i hi => Or.inl hi)
     have hrs := remSegs_any wa F5 lb d l.most (.slice av nv8 cv) c3 dn5 k5 l.ch 0 hLDa hPa (by omega) (by omega) (by omega)
     rw [Nat.sub_zero] at hrs
     unfold chs at hrs
     have zz : ((0 + 1 : Nat) : Int) = 1 := rfl
     rw [zz] at hrs
     have hres : R = ((remC l.ch dn5 k5).1, ⟨l.most, rs, c3, (remC l.ch dn5 k5).2.1⟩, (remC l.ch dn5 k5).2.2) := by rw [← h4R]; unfold rb4L; rw [if_neg (by simp)]
     unfold remC at hres
     clear h4R
     have hkall : Keep (fun i => F i ∨ H i ∨ i = lb) w wa := (((((Keep.ofBelow hBX).andThen hk5 (fun i hi hs => by
      rcases hs with hs | hs | hs
      ·exact Or.inl hs
      ·exact Or.inr (Or.inr hs)
      ·omega)).trans (Keep.ofBelow hb6)).trans (Keep.ofBelow hbD)).trans (Keep.ofBelow hb8)).trans (hka.mono (fun i hi => Or.inr (Or.inr hi)))
     have hRca : RcA wa (fun i => X7.heap.size ≤ i ∧ i < w8.heap.size) (.slice av nv8 cv) rs := hRc8.keep hka (fun i hi e => by subst e; omega) (fun _ h => h)
     have hfinal : ∀ wz dz kz, Lp wa F5 lb d l.most (.slice av nv8 cv) c3 dz kz wz → Lgp w F H lb d ⟨l.most, rs, c3, dz⟩ kz wz := fun wz dz kz hp => by
      obtain ⟨Fz, hLz, hkz, hFz⟩ := hp
      have hsz := hkz.size
      refine ⟨Fz, fun i => X7.heap.size ≤ i ∧ i < w8.heap.size, ⟨⟨.slice av nv8 cv, hLz, hRca.keep hkz (fun i hi hs => ?_) (fun _ h => h)⟩, fun i hi hf => ?_, fun hh => by omega, fun i hi => by omega, hPa.next hkz hFz, fun i hi => by omega⟩, hkall.andThen hkz (fun i hi hs => ?_), fun i hi => ?_, fun i hi => Or.inr (by omega)⟩
      ·rcases hs with hs | hs
       ·have := hF5l i hs; omega
       ·omega
      ·rcases hFz i hf with h9 | h9
       ·have := hF5l i h9; omega
       ·omega
      ·rcases hs with hs | hs
       ·rcases hF5 i hs with h9 | h9
        ·exact Or.inl h9
        ·omega
       ·exact Or.inr (Or.inr hs)
      ·rcases hFz i hi with h9 | h9
       ·exact (hF5 i h9).imp id (fun h => by omega)
       ·exact Or.inr (by have := hkall.size; omega)
     obtain ⟨Q, HQ⟩ : ∃ Q, remAll (segs l.ch.g 0 l.ch.cnt) dn5 k5 = Q := ⟨_, rfl⟩
     rw [HQ] at hrs hres
     clear HQ
     obtain ⟨ez, dz, kz⟩ := Q
     dsimp only at hrs hres
     subst hres
     by_cases h0z : ez = 0
     ·subst h0z
      go_wp2_with (first
       | (go_at_call 112; refine (hrs.mono (fun e w' h => And.intro (h.1.elim (fun k => k.2) (fun k => absurd rfl k.1)) h.2 : ∀ e w', _ → (e = .returned (.tuple #[]) ∧ _))).mono ?_; rintro e wz ⟨rfl, hpz⟩))
      go_end0
      exact ⟨Or.inl ⟨rfl, rfl⟩, hfinal wz dz kz hpz⟩
     ·go_wp2_with (first
       | (go_at_call 112; refine (hrs.mono (fun e w' h => And.intro (h.1.elim (fun k => absurd k.1 h0z) (fun k => k.2)) h.2 : ∀ e w', _ → (e = .panicked (gaveS ez) ∧ _))).mono ?_; rintro e wz ⟨rfl, hpz⟩))
      exact ⟨rfl, gs_no h0z rfl, hfinal wz dz kz hpz⟩
    ·have hres : R = (e5, ⟨l.most, l.recs, l.ch, dn5⟩, k5) := by rw [← h4R]; unfold rb4L; rw [if_pos h05]
     subst hres
     go_wp2_with (first
      | (go_at_call 117; refine (hsr.mono (fun e w' h => And.intro (h.1.elim (fun k => absurd k.1 h05) (fun k => k.2)) h.2 : ∀ e w', _ → (e = .panicked (gaveS e5) ∧ _))).mono ?_; rintro e w5 ⟨rfl, hp5⟩))
     exact ⟨rfl, gs_no h05 rfl, h.ofC' hRc hBX hbl hPb hlb (Lcp.next hk4 hF4 (hL4.lp _ _ _ _ _ _ _ _ _ _ _ hblb hp5))⟩
   ·have hres : R = (e4, ⟨l.most, l.recs, l.ch, dn4⟩, k4) := by rw [← h3R]; unfold rb3L; rw [if_pos h04]
    subst hres
    go_wp2_with (first
     | (go_at_call 104; refine (hsy.mono (fun e w' h => And.intro (h.1.elim (fun k => absurd k.1 h04) (fun k => k.2)) h.2 : ∀ e w', _ → (e = .panicked (gaveS e4) ∧ _))).mono ?_; rintro e w4 ⟨rfl, hp4⟩))
    exact ⟨rfl, gs_no h04 rfl, h.ofC' hRc hBX hbl hPb hlb (Lcp.next hk3 hF3 (hL3.lp _ _ _ _ _ _ _ _ _ _ _ hblb hp4))⟩
  ·have hres : R = (e3, ⟨l.most, l.recs, l.ch, dn3⟩, k3) := by rw [← h2R]; unfold rb2L; rw [if_pos h03]
   subst hres
   go_wp2_with (first
    | (go_at_call 108; refine (hr2.mono (fun e w' h => And.intro (h.1.elim (fun k => absurd k.1 h03) (fun k => k.2)) h.2 : ∀ e w', _ → (e = .panicked (gaveS e3) ∧ _))).mono ?_; rintro e w3 ⟨rfl, hp3⟩))
   exact ⟨rfl, gs_no h03 rfl, h.ofC' hRc hBX hbl hPb hlb (Lcp.next hk2 hF2 hp3)⟩
 ·have hres : R = (e2, ⟨l.most, l.recs, l.ch, dn2⟩, k2) := by rw [← h1R]; unfold rb1L; rw [if_pos h02]
  subst hres
  go_wp2_with (first
   | (go_at_call 108; refine (hr1.mono (fun e w' h => And.intro (h.1.elim (fun k => absurd k.1 h02) (fun k => k.2)) h.2 : ∀ e w', _ → (e = .panicked (gaveS e2) ∧ _))).mono ?_; rintro e w2 ⟨rfl, hp2⟩))
  exact ⟨rfl, gs_no h02 rfl, h.ofC' hRc hBX hbl hPb hlb hp2⟩
end Go.Proofs.YtikkieaokfailaaGreatDoor

namespace Go.Proofs.YtikkieaokfailaaGreatDoor
open Go.RowKit Go.Joins
def bigs (rs : List (List Int)) : Bool := rs.any fun r => decide (1048576 < r.length)
theorem bigs_no {rs : List (List Int)} (h : bigs rs = false) : ∀ r ∈ rs, r.length ≤ 1048576 := fun r hr => by
 unfold bigs at h
 rw [List.any_eq_false] at h
 have := h r hr
 simp at this
 omega
set_option maxHeartbeats 1000000 in
theorem sindex_any (a : Option Addr) (n c : Nat) (rs : List (List Int)) (w : World) (hR : RRd w a n rs) :
  Calls Tryz.prog 107 #[.slice a n c, .func (.func 63) #[] #[]] w fun e w' => ∃ I : Int, e = .returned (.int .i64 I) ∧ (decide (0 ≤ I)) = bigs rs ∧ w' = w := by
 have hnm := hR.most
 have Hn : Hid (rs.length = n) := hR.len
 go_enter Tryz.func107, Tryz.ntmps107
 go_upto_region 2 with fail
 go_loopw [4, 5, 8] (fun s4 _ s8 wr => ∃ j : Nat, s8 = .int .i64 j ∧ s4 = .int .i64 0 ∧ j ≤ n ∧ Hid (∀ i r, i < j → rs[i]? = some r → r.length ≤ 1048576) ∧ wr = w) (fun _ _ s8 _ => n - (intOf s8).toNat)
 case atStart => exact ⟨0, rfl, rfl, by omega, fun i r hi => by omega, rfl⟩
 case round =>
  obtain ⟨j, rfl, rfl, hjn, HJ, hwr⟩ := hrel
  replace hwr := hwr.symm
  subst hwr
  by_cases hlt : j < n
  ·have hcl : (j : Int) < (n : Int) := by omega
   obtain ⟨bb, off, rfl, hce⟩ := hR.flat (by omega)
   obtain ⟨aj, nj, cj, hcj, hrj⟩ := hce j hlt
   obtain ⟨r, hr⟩ : ∃ r, rs[j]? = some r := ⟨_, List.getElem?_eq_getElem (by rw [Hn.out]; exact hlt)⟩
   have hrd : rs.getD j [] = r := by rw [List.getD_eq_getElem?_getD, hr]; rfl
   rw [hrd] at hrj
   have hcap := hrj.cap
   have hmx := hrj.most
   have hig := isBig_any aj nj cj w (by unfold maxLen at hmx; omega)
   have hl := hrj.len
   clear hce hrd hrj
   by_cases hb : 1048576 < nj
   ·rw [decide_eq_true hb] at hig
    have HE : Hid (bigs rs = true) := by
     show _ = _
     unfold bigs
     rw [List.any_eq_true]
     exact ⟨r, List.mem_of_getElem? hr, by rw [hl]; exact decide_eq_true hb⟩
    clear hr hb hl
    go_wp2_with (first
     | (go_at_call 63; refine hig.mono ?_; rintro e w1 ⟨rfl, h1⟩; replace h1 := h1.symm; subst h1))
    go_ret
    exact ⟨(j : Int), rfl, by rw [HE.out]; exact decide_eq_true (by omega), rfl⟩
   ·rw [decide_eq_false hb] at hig
    have HJ2 : Hid (∀ i r, i < j + 1 → rs[i]? = some r → r.length ≤ 1048576) := fun i x hi hx => by
     by_cases e : i < j
     ·exact HJ.out i x e hx
     ·obtain rfl : i = j := by omega
      rw [hr] at hx
      cases hx
      omega
    clear hr hb hl
    go_wp2_with (first
     | (go_at_call 63; refine hig.mono ?_; rintro e w1 ⟨rfl, h1⟩; replace h1 := h1.symm; subst h1))
    exact ⟨⟨j + 1, by go_num, rfl, by omega, HJ2.out, by first | rfl | trivial⟩, by simp [intOf]; omega⟩
  ·have hcl : ¬ (j : Int) < (n : Int) := by omega
   have HE : Hid (bigs rs = false) := by
    show _ = _
    unfold bigs
    rw [List.any_eq_false]
    intro r hr
    obtain ⟨i, hi⟩ := List.getElem?_of_mem hr
    have hil := (List.getElem?_eq_some_iff.1 hi).1
    rw [Hn.out] at hil
    have := HJ.out i r (by omega) hi
    simp
    omega
   go_wp2
   go_ret
   exact ⟨-1, rfl, by rw [HE.out]; rfl, rfl⟩
theorem scontains_any (a : Option Addr) (n c : Nat) (rs : List (List Int)) (w : World) (hR : RRd w a n rs) :
  Calls Tryz.prog 71 #[.slice a n c, .func (.func 63) #[] #[]] w fun e w' => e = .returned (.bool (bigs rs)) ∧ w' = w := by
 have hix := sindex_any a n c rs w hR
 obtain ⟨B, hB⟩ : ∃ B, bigs rs = B := ⟨_, rfl⟩
 rw [hB] at hix ⊢
 clear hB
 go_enter Tryz.func71, Tryz.ntmps71
 go_wp2_with (first
  | (go_at_call 107; refine hix.mono ?_; rintro e w1 ⟨I, rfl, hI, h1⟩; replace h1 := h1.symm; subst h1))
 go_ret
 subst hI
 exact ⟨rfl, rfl⟩
def rebaseT (l : Lg) (k : Dk) (rs : List (List Int)) : Nat × Lg × Dk := if bigs rs = true then (5, l, k) else if l.ch.g = 18446744073709551615 then (14, l, k) else rebaseL l k rs
theorem rebaseC_any (W : World) (F H : Nat → Prop) (lb d bl br : Nat) (l : Lg) (k : Dk) (h : LogAt W F H lb d l k) (hg : l.ch.g < 18446744073709551615) (hcnt : l.ch.cnt ≤ 10000) (hmo : l.most ≤ 1000000000)
  (a : Option Addr) (n cc : Nat) (rs : List (List Int)) (hR : RRd W a n rs) (hnS : RNot W a n (fun i => F i ∨ i = lb ∨ W.heap.size ≤ i)) (hn : n ≤ 10000) (hrl : ∀ r ∈ rs, r.length ≤ 1048576) (hst : k.steps < 900000) (hfl : k.fs.length < 900000)
  (hbl : W.heap[bl]? = some (.cells #[.pointer (some ⟨lb, 0, none⟩)] 48 (0, 0))) (hbr : W.heap[br]? = some (.cells #[.slice a n cc] 30 (0, 0))) :
  Calls Tryz.prog 72 #[.pointer (some ⟨bl, 0, none⟩), .pointer (some ⟨br, 0, none⟩)] W fun e w' => Gs (rebaseL l k rs).1 e ∧ Lgp W F H lb d (rebaseL l k rs).2.1 (rebaseL l k rs).2.2 w' := by
 have hrb := rebase_any W F H lb d l k h hg hcnt hmo a n cc rs hR hnS hn hrl hst hfl
 obtain ⟨P, HP⟩ : ∃ P, rebaseL l k rs = P := ⟨_, rfl⟩
 rw [HP] at hrb ⊢
 clear HP
 obtain ⟨en, l2, k2⟩ := P
 dsimp only at hrb ⊢
 have q1 := box_cell hbl
 have q2 := box_cell hbr
 by_cases h0 : en = 0
 ·subst h0
  go_enter Tryz.func72, Tryz.ntmps72
  go_wp2_with (first
   | (go_at_call 73; refine (hrb.mono (fun e w' h => And.intro (h.1.elim (fun k => k.2) (fun k => absurd rfl k.1)) h.2 : ∀ e w', _ → (e = .returned (.tuple #[]) ∧ _))).mono ?_; rintro e w6 ⟨rfl, hp⟩))
  go_end0
  exact ⟨Or.inl ⟨rfl, rfl⟩, hp⟩
 ·go_enter Tryz.func72, Tryz.ntmps72
  go_wp2_with (first
   | (go_at_call 73; refine (hrb.mono (fun e w' h => And.intro (h.1.elim (fun k => absurd k.1 h0) (fun k => k.2)) h.2 : ∀ e w', _ → (e = .panicked (gaveS en) ∧ _))).mono ?_; rintro e w6 ⟨rfl, hp⟩))
  exact ⟨rfl, gs_no h0 rfl, hp⟩
set_option maxHeartbeats 1000000 in
theorem srebase_any (w : World) (F H : Nat → Prop) (lb d : Nat) (l : Lg) (k : Dk) (h : LogAt w F H lb d l k) (hg : l.ch.g < 18446744073709551616) (hcnt : l.ch.cnt ≤ 10000) (hmo : l.most ≤ 1000000000)
  (a : Option Addr) (n cc : Nat) (rs : List (List Int)) (hR : RRd w a n rs) (hnS : RNot w a n (fun i => F i ∨ i = lb ∨ w.heap.size ≤ i)) (hn : n ≤ 10000) (hst : k.steps < 900000) (hfl : k.fs.length < 900000) :
  Calls Tryz.prog 29 #[.pointer (some ⟨lb, 0, none⟩), .slice a n cc] w fun e w' => e = .returned (.int .i64 (rebaseT l k rs).1) ∧ Lgp w F H lb d (rebaseT l k rs).2.1 (rebaseT l k rs).2.2 w' := by
 have hmf : ∀ (fn : Fn) (first cap : Array Value) (w : World), (Instr.makeFunc fn first cap).run Tryz.prog w = .ok (.func fn first cap) w := fun _ _ _ _ => rfl
 obtain ⟨W, hW⟩ : ∃ W, (w.alloc (.cells #[.pointer (some ⟨lb, 0, none⟩)] 48)).alloc (.cells #[.slice a n cc] 30) = W := ⟨_, rfl⟩
 have hB : Below w.heap.size w W := by rw [← hW]; exact ((Below.refl _ _).alloc (Nat.le_refl _) _).alloc (by simp) _
 have q0 : W.heap[w.heap.size]? = some (.cells #[.pointer (some ⟨lb, 0, none⟩)] 48 (0, 0)) := by rw [← hW]; exact alloc2_at w _ _
 have q1 : W.heap[w.heap.size + 1]? = some (.cells #[.slice a n cc] 30 (0, 0)) := by rw [← hW]; exact (by simpa using alloc_at (w.alloc (.cells #[.pointer (some ⟨lb, 0, none⟩)] 48)) (.cells #[.slice a n cc] 30))
 have c0 := box_cell q0
 have c1 := box_cell q1
 have hLW := h.below hB
 have hRW := hR.below hB
 obtain ⟨v, hLD, _⟩ := hLW.ex
 have c3 := hLD.c3
 have hct := scontains_any a n cc rs W hRW
 have hws := hB.size
 unfold rebaseT
 by_cases hbig : bigs rs = true
 ·rw [if_pos hbig]
  rw [hbig] at hct
  clear hbig
  go_enter Tryz.func29, Tryz.ntmps29
  go_upto_region 1 with fail
  clear hW
  go_wp2_with (first
   | (go_at_call 71; refine hct.mono ?_; rintro e w1 ⟨rfl, h1⟩; replace h1 := h1.symm; subst h1))
  go_ret
  exact ⟨rfl, Lgp.from hB (Lgp.refl hLW)⟩
 ·have hbf : bigs rs = false := by simpa using hbig
  rw [if_neg hbig]
  rw [hbf] at hct
  clear hbig
  by_cases hgm : l.ch.g = 18446744073709551615
  ·rw [if_pos hgm]
   rw [hgm] at c3
   clear hgm
   go_enter Tryz.func29, Tryz.ntmps29
   go_upto_region 1 with fail
   clear hW
   go_wp2_with (first
    | (go_at_call 71; refine hct.mono ?_; rintro e w1 ⟨rfl, h1⟩; replace h1 := h1.symm; subst h1))
   go_ret
   exact ⟨rfl, Lgp.from hB (Lgp.refl hLW)⟩
  ·rw [if_neg hgm]
   have hgz : ((l.ch.g : Int) == 18446744073709551615) = false := by rw [beq_eq_false_iff_ne]; omega
   have hgz2 : ¬ (l.ch.g : Int) = 18446744073709551615 := by omega
   have hnW : RNot W a n (fun i => F i ∨ i = lb ∨ w.heap.size ≤ i) := hnS.keep hR (Keep.ofBelow (S := fun _ => False) hB) ⟨fun _ _ h => h, fun _ _ _ _ _ _ _ _ _ _ _ h => h⟩
   have hA : Calls Tryz.prog 60 #[.func (.func 72) #[] #[.pointer (some ⟨w.heap.size, 0, none⟩), .pointer (some ⟨w.heap.size + 1, 0, none⟩)]] W fun e w' => e = .returned (.int .i64 (rebaseL l k rs).1) ∧ Lgp W F H lb d (rebaseL l k rs).2.1 (rebaseL l k rs).2.2 w' := by
    refine attempt_L _ _ _ W F H lb d l _ k _ hLW (enters_of Tryz.func72 (by kernel_rfl) rfl) (fun hL1 hb1 => ?_)
    have hs1 := hb1.size
    exact rebaseC_any _ F H lb d _ _ l k hL1 (by omega) hcnt hmo a n cc rs (hRW.below hb1) ((hnW.keep hRW (Keep.ofBelow (S := fun _ => False) hb1) ⟨fun _ _ h => h, fun _ _ _ _ _ _ _ _ _ _ _ h => h⟩).mono (fun i hi => hi.elim Or.inl (fun h9 => Or.inr (h9.elim Or.inl (fun h8 => Or.inr (by omega)))))) hn (bigs_no hbf) hst hfl (box_below q0 hb1) (box_below q1 hb1)
   obtain ⟨P, hP⟩ : ∃ P, rebaseL l k rs = P := ⟨_, rfl⟩
   rw [hP] at hA ⊢
   clear hP hLW hRW hbf hgm
   go_enter Tryz.func29, Tryz.ntmps29
   go_upto_region 1 with fail
   clear hW
   go_wp2_with (first
    | (go_at_call 71; refine hct.mono ?_; rintro e w1 ⟨rfl, h1⟩; replace h1 := h1.symm; subst h1)
    | (go_at_call 60; refine hA.mono ?_; rintro e w1 ⟨rfl, hp⟩))
   go_ret
   exact ⟨rfl, hp.from hB⟩
end Go.Proofs.YtikkieaokfailaaGreatDoor

namespace Go.Proofs.YtikkieaokfailaaGreatDoor
open Go.RowKit Go.Joins
theorem add_bytesR (a b : List UInt8) : ((⟨a.toArray⟩ : ByteArray) ++ (⟨b.toArray⟩ : ByteArray)) = ⟨(a ++ b).toArray⟩ := add_bytes a b
theorem rdOneD (w : World) (q : Nat) (hq : q < 10) : Rd (w.alloc (.cells #[.int .u8 (48 + (q : Int))] 5)) (some ⟨w.heap.size, 0, none⟩) 1 1 [48 + (q : Int)] := by
 refine ⟨rfl, Nat.le_refl _, by unfold maxLen; omega, (fun h => by cases h), fun x hx => by rw [List.mem_singleton.1 hx]; omega, fun ad ha j hj => ?_⟩
 cases ha
 obtain rfl : j = 0 := by omega
 rw [add_flat, cell_of_block (alloc_at w _)]
 rfl
theorem str_one (q : Nat) (hq : q < 10) : strOfNums [48 + (q : Int)] = ⟨#[UInt8.ofNat (48 + q)]⟩ := by
 match q, hq with
 | 0, _ => rfl
 | 1, _ => rfl
 | 2, _ => rfl
 | 3, _ => rfl
 | 4, _ => rfl
 | 5, _ => rfl
 | 6, _ => rfl
 | 7, _ => rfl
 | 8, _ => rfl
 | 9, _ => rfl
set_option maxHeartbeats 1000000 in
theorem rdig_one (n : Nat) (h : n < 10) (w : World) : Calls Tryz.prog 124 #[.int .u64 (n : Int)] w fun e w' => e = .returned (.string ⟨(Lib.decDigits n).toArray⟩) ∧ Below w.heap.size w w' := by
 have hs := (rdOneD w n h).string
 rw [str_one n h] at hs
 have hD : Lib.decDigits n = [UInt8.ofNat (48 + n)] := Lib.decDigits_one h
 rw [hD]
 have z1 : (n : Int) < 10 := by omega
 have z2 : (n : Int).tmod 10 = (n : Int) := by rw [Int.tmod_eq_emod_of_nonneg (by omega)]; omega
 have hbA : Below w.heap.size w (w.alloc (.cells #[.int .u8 (48 + (n : Int))] 5)) := (Below.refl _ _).alloc (Nat.le_refl _) _
 clear hD
 obtain ⟨S, hS⟩ : ∃ S, (⟨#[UInt8.ofNat (48 + n)]⟩ : ByteArray) = S := ⟨_, rfl⟩
 rw [hS] at hs
 show Calls _ _ _ _ fun e w' => e = .returned (.string ⟨#[UInt8.ofNat (48 + n)]⟩) ∧ Below w.heap.size w w'
 rw [hS]
 clear hS h
 go_enter Tryz.func124, Tryz.ntmps124
 go_wp2
 go_ret
 exact ⟨rfl, hbA⟩
set_option maxHeartbeats 1000000 in
theorem rdig_more (n : Nat) (h : ¬ n < 10) (hn : n < 18446744073709551616) (ih : ∀ w : World, Calls Tryz.prog 124 #[.int .u64 ((n / 10 : Nat) : Int)] w fun e w' => e = .returned (.string ⟨(Lib.decDigits (n / 10)).toArray⟩) ∧ Below w.heap.size w w') (w : World) : Calls Tryz.prog 124 #[.int .u64 (n : Int)] w fun e w' => e = .returned (.string ⟨(Lib.decDigits n).toArray⟩) ∧ Below w.heap.size w w' := by
 obtain ⟨q, hq⟩ : ∃ q, n % 10 = q := ⟨_, rfl⟩
 have hq10 : q < 10 := by omega
 obtain ⟨m, hm⟩ : ∃ m, n / 10 = m := ⟨_, rfl⟩
 have hs := (rdOneD w q hq10).string
 rw [str_one q hq10] at hs
 have hD : Lib.decDigits n = Lib.decDigits m ++ [UInt8.ofNat (48 + q)] := by rw [decDigits_moreL h, hm, hq]
 have hl := dig_len20 m (by omega)
 rw [hm] at ih
 rw [hD]
 have z1 : ¬ (n : Int) < 10 := by omega
 have z2 : (n : Int).tmod 10 = (q : Int) := by rw [Int.tmod_eq_emod_of_nonneg (by omega)]; omega
 have z3 : (n : Int).tdiv 10 = (m : Int) := by rw [Int.tdiv_eq_ediv_of_nonneg (by omega)]; omega
 have z4 : (n : Int) % 10 = (q : Int) := by omega
 have z5 : (n : Int) / 10 = (m : Int) := by omega
 have hqz : (q : Int) < 10 := by omega
 have hbA : Below w.heap.size w (w.alloc (.cells #[.int .u8 (48 + (q : Int))] 5)) := (Below.refl _ _).alloc (Nat.le_refl _) _
 have ihA := ih (w.alloc (.cells #[.int .u8 (48 + (q : Int))] 5))
 have hadd := add_bytesR (Lib.decDigits m) [UInt8.ofNat (48 + q)]
 obtain ⟨D, HD⟩ : ∃ D, Hid ((⟨(Lib.decDigits m).toArray⟩ : ByteArray) = D) := ⟨_, rfl⟩
 obtain ⟨S, HS⟩ : ∃ S, Hid ((⟨[UInt8.ofNat (48 + q)].toArray⟩ : ByteArray) = S) := ⟨_, rfl⟩
 have hsz : D.size ≤ 20 := by rw [← HD.out]; show (Lib.decDigits m).toArray.size ≤ 20; simpa using hl
 have hsz1 : S.size = 1 := by rw [← HS.out]; rfl
 rw [← hadd, HD.out, HS.out]
 rw [HD.out] at ihA
 have hs' : (convert 29 9 (.slice (some ⟨w.heap.size, 0, none⟩) 1 1)).run Tryz.prog (w.alloc (.cells #[.int .u8 (48 + (q : Int))] 5)) = .ok (.string S) (w.alloc (.cells #[.int .u8 (48 + (q : Int))] 5)) := by
  rw [← HS.out]
  exact hs
 have hml : D.size + S.size ≤ maxLen := by rw [hsz1]; unfold maxLen; omega
 have hnz : (n : Int) < 18446744073709551616 := by omega
 have hmz : (m : Int) < 18446744073709551616 := by omega
 clear hs hq hm hD hl ih h hadd hn
 go_enter Tryz.func124, Tryz.ntmps124
 go_wp2_with (first
  | (go_at_call 124; refine ihA.mono ?_; rintro e w1 ⟨rfl, hb1⟩))
 go_ret
 exact ⟨rfl, hbA.trans (hb1.mono hbA.size)⟩
theorem rdig_any : ∀ (k n : Nat), n ≤ k → n < 18446744073709551616 → ∀ w : World, Calls Tryz.prog 124 #[.int .u64 (n : Int)] w fun e w' => e = .returned (.string ⟨(Lib.decDigits n).toArray⟩) ∧ Below w.heap.size w w'
 | 0, n, hk, _, w => rdig_one n (by omega) w
 | k + 1, n, hk, hn, w => by
  by_cases h : n < 10
  ·exact rdig_one n h w
  ·exact rdig_more n h hn (fun w => rdig_any k (n / 10) (by omega) (by omega) w) w
set_option maxHeartbeats 1000000 in
theorem rfile_any (g i : Nat) (hg : g < 18446744073709551616) (hi : i ≤ 9223372036854775807) (w : World) : Calls Tryz.prog 82 #[.int .u64 (g : Int), .int .i64 (i : Int)] w fun e w' => e = .returned (.string (segN g i)) ∧ Below w.heap.size w w' := by
 have h1 := rdig_any g g (Nat.le_refl _) hg w
 have h2 := fun w => rdig_any i i (Nat.le_refl _) (by omega) w
 have l1 := dig_len20 g hg
 have l2 := dig_len20 i (by omega)
 have hE : segN g i = (((⟨[108, 111, 103, 45].toArray⟩ : ByteArray) ++ ⟨(Lib.decDigits g).toArray⟩) ++ ⟨[45].toArray⟩) ++ ⟨(Lib.decDigits i).toArray⟩ := by
  rw [add_bytesR, add_bytesR, add_bytesR]
  rfl
 rw [hE]
 obtain ⟨D, HD⟩ : ∃ D, Hid ((⟨(Lib.decDigits g).toArray⟩ : ByteArray) = D) := ⟨_, rfl⟩
 obtain ⟨E, HE⟩ : ∃ E, Hid ((⟨(Lib.decDigits i).toArray⟩ : ByteArray) = E) := ⟨_, rfl⟩
 have s1 : D.size ≤ 20 := by rw [← HD.out]; show (Lib.decDigits g).toArray.size ≤ 20; simpa using l1
 have s2 : E.size ≤ 20 := by rw [← HE.out]; show (Lib.decDigits i).toArray.size ≤ 20; simpa using l2
 rw [HD.out] at h1 ⊢
 rw [HE.out] at ⊢
 simp only [HE.out] at h2
 have z4 : (⟨[108, 111, 103, 45].toArray⟩ : ByteArray).size = 4 := rfl
 have z1 : (⟨[45].toArray⟩ : ByteArray).size = 1 := rfl
 have m1 : (⟨[108, 111, 103, 45].toArray⟩ : ByteArray).size + D.size ≤ maxLen := by rw [z4]; unfold maxLen; omega
 have e1 : ((⟨[108, 111, 103, 45].toArray⟩ : ByteArray) ++ D).size = 4 + D.size := by rw [ByteArray.size_append, z4]
 have m2 : ((⟨[108, 111, 103, 45].toArray⟩ : ByteArray) ++ D).size + (⟨[45].toArray⟩ : ByteArray).size ≤ maxLen := by rw [e1, z1]; unfold maxLen; omega
 have e2 : (((⟨[108, 111, 103, 45].toArray⟩ : ByteArray) ++ D) ++ ⟨[45].toArray⟩).size = 4 + D.size + 1 := by rw [ByteArray.size_append, e1, z1]
 have m3 : (((⟨[108, 111, 103, 45].toArray⟩ : ByteArray) ++ D) ++ ⟨[45].toArray⟩).size + E.size ≤ maxLen := by rw [e2]; unfold maxLen; omega
 have tk : True := trivial
 clear hE l1 l2 e1 e2 z4 z1
 go_enter Tryz.func82, Tryz.ntmps82
 go_wp2_with (first
  | (clear tk; go_at_call 124; refine h1.mono ?_; rintro e w1 ⟨rfl, hb1⟩)
  | (go_at_call 124; refine (h2 w1).mono ?_; rintro e w2 ⟨rfl, hb2⟩))
 go_ret
 exact ⟨rfl, hb1.trans (hb2.mono hb1.size)⟩
set_option maxRecDepth 100000 in
set_option maxHeartbeats 2000000 in
theorem rbig4_any (n : Nat) (w : World) :
  Calls Tryz.prog 121 #[.int .u64 (n : Int), .int .i64 4] w fun e w' => ∃ v', e = .returned v' ∧ w'.ownsRow w.heap.size 5 1 v' 4 (bc (bigL 4 n)) ∧ Below w.heap.size w w' := by
 have HE : Hid (bigL 4 n = [(n : Int) / 16777216 % 256, (n : Int) / 65536 % 256, (n : Int) / 256 % 256, (n : Int) % 256]) := big4 n
 have l0 : 0 ≤ (n : Int) / 16777216 % 256 ∧ (n : Int) / 16777216 % 256 ≤ 255 := by omega
 have l1 : 0 ≤ (n : Int) / 65536 % 256 ∧ (n : Int) / 65536 % 256 ≤ 255 := by omega
 have l2 : 0 ≤ (n : Int) / 256 % 256 ∧ (n : Int) / 256 % 256 ≤ 255 := by omega
 have l3 : 0 ≤ (n : Int) % 256 ∧ (n : Int) % 256 ≤ 255 := by omega
 have hown : w.ownsRow w.heap.size 5 1 (.slice none 0 0) 0 (bc []) := ⟨rfl, .inl ⟨rfl, rfl⟩⟩
 have hb0 : Below w.heap.size w w := Below.refl _ _
 go_enter Tryz.func121, Tryz.ntmps121
 go_wp2_with fail
 refine wp_loop_rounds 5 ?_
 rw [rounds_succ]
 go_wp2_with (at_builtin; refine wp_app1K (wr := w) rfl _ _ rfl w.heap.size (.slice none 0 0) 0 (([] : List Int)) rfl hown ((n : Int) / 16777216 % 256) l0.1 l0.2 rfl (by omega) hb0.size ?_; intro v1 w1 o1 b1)
 have hb1 := hb0.trans b1
 rw [rounds_succ]
 go_wp2_with (at_builtin; refine wp_app1K (wr := w1) rfl _ _ rfl w.heap.size v1 1 ((([] : List Int) ++ [(n : Int) / 16777216 % 256])) rfl o1 ((n : Int) / 65536 % 256) l1.1 l1.2 rfl (by omega) hb1.size ?_; intro v2 w2 o2 b2)
 have hb2 := hb1.trans b2
 rw [rounds_succ]
 go_wp2_with (at_builtin; refine wp_app1K (wr := w2) rfl _ _ rfl w.heap.size v2 2 (((([] : List Int) ++ [(n : Int) / 16777216 % 256]) ++ [(n : Int) / 65536 % 256])) rfl o2 ((n : Int) / 256 % 256) l2.1 l2.2 rfl (by omega) hb2.size ?_; intro v3 w3 o3 b3)
 have hb3 := hb2.trans b3
 rw [rounds_succ]
 go_wp2_with (at_builtin; refine wp_app1K (wr := w3) rfl _ _ rfl w.heap.size v3 3 ((((([] : List Int) ++ [(n : Int) / 16777216 % 256]) ++ [(n : Int) / 65536 % 256]) ++ [(n : Int) / 256 % 256])) rfl o3 ((n : Int) % 256) l3.1 l3.2 rfl (by omega) hb3.size ?_; intro v4 w4 o4 b4)
 have hb4 := hb3.trans b4
 rw [rounds_succ]
 go_wp2
 go_ret
 refine ⟨_, rfl, ?_, hb4⟩
 rw [HE.out]
 simpa using o4
set_option maxRecDepth 100000 in
set_option maxHeartbeats 2000000 in
theorem rbig8_any (n : Nat) (w : World) :
  Calls Tryz.prog 121 #[.int .u64 (n : Int), .int .i64 8] w fun e w' => ∃ v', e = .returned v' ∧ w'.ownsRow w.heap.size 5 1 v' 8 (bc (bigL 8 n)) ∧ Below w.heap.size w w' := by
 have HE : Hid (bigL 8 n = [(n : Int) / 72057594037927936 % 256, (n : Int) / 281474976710656 % 256, (n : Int) / 1099511627776 % 256, (n : Int) / 4294967296 % 256, (n : Int) / 16777216 % 256, (n : Int) / 65536 % 256, (n : Int) / 256 % 256, (n : Int) % 256]) := big8 n
 have l0 : 0 ≤ (n : Int) / 72057594037927936 % 256 ∧ (n : Int) / 72057594037927936 % 256 ≤ 255 := by omega
 have l1 : 0 ≤ (n : Int) / 281474976710656 % 256 ∧ (n : Int) / 281474976710656 % 256 ≤ 255 := by omega
 have l2 : 0 ≤ (n : Int) / 1099511627776 % 256 ∧ (n : Int) / 1099511627776 % 256 ≤ 255 := by omega
 have l3 : 0 ≤ (n : Int) / 4294967296 % 256 ∧ (n : Int) / 4294967296 % 256 ≤ 255 := by omega
 have l4 : 0 ≤ (n : Int) / 16777216 % 256 ∧ (n : Int) / 16777216 % 256 ≤ 255 := by omega
 have l5 : 0 ≤ (n : Int) / 65536 % 256 ∧ (n : Int) / 65536 % 256 ≤ 255 := by omega
 have l6 : 0 ≤ (n : Int) / 256 % 256 ∧ (n : Int) / 256 % 256 ≤ 255 := by omega
 have l7 : 0 ≤ (n : Int) % 256 ∧ (n : Int) % 256 ≤ 255 := by omega
 have hown : w.ownsRow w.heap.size 5 1 (.slice none 0 0) 0 (bc []) := ⟨rfl, .inl ⟨rfl, rfl⟩⟩
 have hb0 : Below w.heap.size w w := Below.refl _ _
 go_enter Tryz.func121, Tryz.ntmps121
 go_wp2_with fail
 refine wp_loop_rounds 9 ?_
 rw [rounds_succ]
 go_wp2_with (at_builtin; refine wp_app1K (wr := w) rfl _ _ rfl w.heap.size (.slice none 0 0) 0 (([] : List Int)) rfl hown ((n : Int) / 72057594037927936 % 256) l0.1 l0.2 rfl (by omega) hb0.size ?_; intro v1 w1 o1 b1)
 have hb1 := hb0.trans b1
 rw [rounds_succ]
 go_wp2_with (at_builtin; refine wp_app1K (wr := w1) rfl _ _ rfl w.heap.size v1 1 ((([] : List Int) ++ [(n : Int) / 72057594037927936 % 256])) rfl o1 ((n : Int) / 281474976710656 % 256) l1.1 l1.2 rfl (by omega) hb1.size ?_; intro v2 w2 o2 b2)
 have hb2 := hb1.trans b2
 rw [rounds_succ]
 go_wp2_with (at_builtin; refine wp_app1K (wr := w2) rfl _ _ rfl w.heap.size v2 2 (((([] : List Int) ++ [(n : Int) / 72057594037927936 % 256]) ++ [(n : Int) / 281474976710656 % 256])) rfl o2 ((n : Int) / 1099511627776 % 256) l2.1 l2.2 rfl (by omega) hb2.size ?_; intro v3 w3 o3 b3)
 have hb3 := hb2.trans b3
 rw [rounds_succ]
 go_wp2_with (at_builtin; refine wp_app1K (wr := w3) rfl _ _ rfl w.heap.size v3 3 ((((([] : List Int) ++ [(n : Int) / 72057594037927936 % 256]) ++ [(n : Int) / 281474976710656 % 256]) ++ [(n : Int) / 1099511627776 % 256])) rfl o3 ((n : Int) / 4294967296 % 256) l3.1 l3.2 rfl (by omega) hb3.size ?_; intro v4 w4 o4 b4)
 have hb4 := hb3.trans b4
 rw [rounds_succ]
 go_wp2_with (at_builtin; refine wp_app1K (wr := w4) rfl _ _ rfl w.heap.size v4 4 (((((([] : List Int) ++ [(n : Int) / 72057594037927936 % 256]) ++ [(n : Int) / 281474976710656 % 256]) ++ [(n : Int) / 1099511627776 % 256]) ++ [(n : Int) / 4294967296 % 256])) rfl o4 ((n : Int) / 16777216 % 256) l4.1 l4.2 rfl (by omega) hb4.size ?_; intro v5 w5 o5 b5)
 have hb5 := hb4.trans b5
 rw [rounds_succ]
 go_wp2_with (at_builtin; refine wp_app1K (wr := w5) rfl _ _ rfl w.heap.size v5 5 ((((((([] : List Int) ++ [(n : Int) / 72057594037927936 % 256]) ++ [(n : Int) / 281474976710656 % 256]) ++ [(n : Int) / 1099511627776 % 256]) ++ [(n : Int) / 4294967296 % 256]) ++ [(n : Int) / 16777216 % 256])) rfl o5 ((n : Int) / 65536 % 256) l5.1 l5.2 rfl (by omega) hb5.size ?_; intro v6 w6 o6 b6)
 have hb6 := hb5.trans b6
 rw [rounds_succ]
 go_wp2_with (at_builtin; refine wp_app1K (wr := w6) rfl _ _ rfl w.heap.size v6 6 (((((((([] : List Int) ++ [(n : Int) / 72057594037927936 % 256]) ++ [(n : Int) / 281474976710656 % 256]) ++ [(n : Int) / 1099511627776 % 256]) ++ [(n : Int) / 4294967296 % 256]) ++ [(n : Int) / 16777216 % 256]) ++ [(n : Int) / 65536 % 256])) rfl o6 ((n : Int) / 256 % 256) l6.1 l6.2 rfl (by omega) hb6.size ?_; intro v7 w7 o7 b7)
 have hb7 := hb6.trans b7
 rw [rounds_succ]
 go_wp2_with (at_builtin; refine wp_app1K (wr := w7) rfl _ _ rfl w.heap.size v7 7 ((((((((([] : List Int) ++ [(n : Int) / 72057594037927936 % 256]) ++ [(n : Int) / 281474976710656 % 256]) ++ [(n : Int) / 1099511627776 % 256]) ++ [(n : Int) / 4294967296 % 256]) ++ [(n : Int) / 16777216 % 256]) ++ [(n : Int) / 65536 % 256]) ++ [(n : Int) / 256 % 256])) rfl o7 ((n : Int) % 256) l7.1 l7.2 rfl (by omega) hb7.size ?_; intro v8 w8 o8 b8)
 have hb8 := hb7.trans b8
 rw [rounds_succ]
 go_wp2
 go_ret
 refine ⟨_, rfl, ?_, hb8⟩
 rw [HE.out]
 simpa using o8
end Go.Proofs.YtikkieaokfailaaGreatDoor

namespace Go.Proofs.YtikkieaokfailaaGreatDoor
open Go.RowKit Go.Joins
theorem rnumber_any (a : Option Addr) (n c : Nat) (xs : List Int) (w : World) (hR : Rd w a n c xs) (h8 : n ≤ 8) :
  Calls Tryz.prog 95 #[.slice a n c] w fun e w' => e = .returned (.int .u64 (numL xs : Nat)) ∧ w' = w := by
 have hl := hR.len
 have hcp := hR.cap
 have hmx : c ≤ 9223372036854775807 := hR.most
 have HL : Hid (numL xs = numK xs n) := by show numL xs = numK xs n; unfold numL; rw [hl]
 rw [HL.out]
 clear hl
 go_enter Tryz.func95, Tryz.ntmps95
 go_wp2
 go_loop [3, 4] (fun s i => ∃ k : Nat, k ≤ n ∧ i = .int .i64 k ∧ s = .int .u64 (numK xs k)) (fun _ i => n - (intOf i).toNat)
 case atStart => exact ⟨0, by omega, rfl, rfl⟩
 case round =>
  obtain ⟨k, hk, rfl, rfl⟩ := hrel
  by_cases hlt : k < n
  ·have hlz : (k : Int) < (n : Int) := by omega
   have hk0 : (0 : Int) ≤ (k : Int) := by omega
   have hb := hR.bytes.get k
   have hlt2 := numK_lt hR.bytes k
   have hpow : 256 ^ k ≤ 72057594037927936 := by
    have : 256 ^ k ≤ 256 ^ 7 := Nat.pow_le_pow_right (by omega) (by omega)
    simpa using this
   obtain ⟨ad, rfl⟩ : ∃ ad, a = some ad := by
    cases a with
    | none => have := hR.nil rfl; omega
    | some ad => exact ⟨ad, rfl⟩
   have hc1 := hR.cells _ rfl k hlt
   obtain ⟨z, hz⟩ : ∃ z, xs.getD k 0 = z := ⟨_, rfl⟩
   have HB : Hid (numK xs (k + 1) = numK xs k * 256 + z.toNat) := by rw [← hz]; exact rfl
   rw [hz] at hb hc1
   have ho := or_beN (acc := numK xs k) hb.1 hb.2 (by omega)
   have hbk : ((numK xs k : Nat) : Int) < 72057594037927936 := by omega
   clear hz hpow hlt2
   go_wp2
   go_round
   case rel => exact ⟨k + 1, by omega, by go_num, by rw [HB.out]; congr 1; omega⟩
   case measure => simp [intOf]; omega
  ·obtain rfl : k = n := by omega
   have hlz : ¬ (k : Int) < (k : Int) := by omega
   go_wp2
   go_ret
   exact ⟨rfl, rfl⟩
theorem rsumN_any (a : Option Addr) (n c : Nat) (xs : List Int) (w : World) (hR : Rd w a n c xs) :
  Calls Tryz.prog 122 #[.slice a n c] w fun e w' => e = .returned (.int .u32 ((crcN xs : Nat) : Int)) ∧ w' = w := refSum_any a n c xs w hR
set_option maxHeartbeats 1000000 in
theorem rform_any (a : Option Addr) (n c : Nat) (xs : List Int) (w : World) (hR : Rd w a n c xs) (hn : n ≤ 1048576) :
  Calls Tryz.prog 76 #[.slice a n c] w fun e w' => ∃ v', e = .returned v' ∧ w'.ownsRow w.heap.size 5 1 v' (8 + n) (bc (formL xs)) ∧ Below w.heap.size w w' := by
 have hl := hR.len
 have hS := fun w' (hb : Below w.heap.size w w') => rsumN_any a n c xs w' (hR.carry (Nat.le_refl _) hb)
 have hlt := crcN_lt xs
 have HF : Hid (formL xs = bigL 4 n ++ bigL 4 (crcN xs) ++ xs) := by show formL xs = _; unfold formL; rw [hl]
 rw [HF.out]
 obtain ⟨S, HS⟩ : ∃ S, Hid (crcN xs = S) := ⟨_, rfl⟩
 rw [HS.out] at hlt ⊢
 simp only [HS.out] at hS
 have hz1 : (n : Int) ≤ 1048576 := by omega
 have hz2 : (S : Int) < 4294967296 := by omega
 have tk : True := trivial
 have tk2 : True := trivial
 clear hl HF
 go_enter Tryz.func76, Tryz.ntmps76
 go_wp2_with (first
  | (clear tk; go_at_call 121; refine (rbig4_any n w).mono ?_; rintro e w2 ⟨v2, rfl, o2, b2⟩)
  | (go_at_call 122; refine (hS w2 b2).mono ?_; rintro e w3 ⟨rfl, h3⟩; replace h3 := h3.symm; subst h3)
  | (go_at_call 121; refine (rbig4_any S w2).mono ?_; rintro e w4 ⟨v4, rfl, o4, b4⟩; obtain ⟨a4, c4, rfl, r4⟩ := Rd.ofOwn o4 (bigL_bd 4 S); have hb4 := b2.trans (b4.mono b2.size); have o24 := own_keep (S := fun _ => False) o2 (Keep.ofBelow b4) (fun _ _ h => h))
  | (clear tk2; at_builtin; refine wp_appK rfl _ _ rfl w.heap.size v2 4 (bigL 4 n) rfl o24 a4 4 c4 (bigL 4 S) rfl r4 (by omega) hb4.size ?_; intro v5 w5 o5 g5 _; have hb5 := hb4.grown g5 hb4.size (fun k hk => (o24.lt k hk).1))
  | (at_builtin; refine wp_appK rfl _ _ rfl w.heap.size v5 (4 + 4) (bigL 4 n ++ bigL 4 S) rfl o5 a n c xs rfl (hR.carry (Nat.le_refl _) hb5) (by omega) hb5.size ?_; intro v6 w6 o6 g6 _; have hb6 := hb5.grown g6 hb5.size (fun k hk => (o5.lt k hk).1)))
 go_ret
 exact ⟨_, rfl, o6, hb6⟩
set_option maxHeartbeats 1000000 in
theorem rbase_any (g : Nat) (w : World) :
  Calls Tryz.prog 78 #[.int .u64 (g : Int)] w fun e w' => ∃ v', e = .returned v' ∧ w'.ownsRow w.heap.size 5 1 v' 12 (bc (baseL g)) ∧ Below w.heap.size w w' := by
 have hlt := crcN_lt (bigL 8 g)
 have HF : Hid (baseL g = bigL 8 g ++ bigL 4 (crcN (bigL 8 g))) := rfl
 rw [HF.out]
 have hS := fun a n c w' (h : Rd w' a n c (bigL 8 g)) => rsumN_any a n c (bigL 8 g) w' h
 obtain ⟨S, HS⟩ : ∃ S, Hid (crcN (bigL 8 g) = S) := ⟨_, rfl⟩
 rw [HS.out] at hlt ⊢
 simp only [HS.out] at hS
 have hz2 : (S : Int) < 4294967296 := by omega
 have tk : True := trivial
 clear HF
 go_enter Tryz.func78, Tryz.ntmps78
 go_wp2_with (first
  | (clear tk; go_at_call 121; refine (rbig8_any g w).mono ?_; rintro e w2 ⟨v2, rfl, o2, b2⟩; obtain ⟨a2, c2, rfl, r2⟩ := Rd.ofOwn o2 (bigL_bd 8 g))
  | (go_at_call 122; refine (hS a2 _ c2 w2 r2).mono ?_; rintro e w3 ⟨rfl, h3⟩; replace h3 := h3.symm; subst h3)
  | (go_at_call 121; refine (rbig4_any S w2).mono ?_; rintro e w4 ⟨v4, rfl, o4, b4⟩; obtain ⟨a4, c4, rfl, r4⟩ := Rd.ofOwn o4 (bigL_bd 4 S); have hb4 := b2.trans (b4.mono b2.size); have o24 := own_keep (S := fun _ => False) o2 (Keep.ofBelow b4) (fun _ _ h => h))
  | (at_builtin; refine wp_appK rfl _ _ rfl w.heap.size (.slice a2 8 c2) 8 (bigL 8 g) rfl o24 a4 4 c4 (bigL 4 S) rfl r4 (by omega) hb4.size ?_; intro v5 w5 o5 g5 _; have hb5 := hb4.grown g5 hb4.size (fun k hk => (o24.lt k hk).1)))
 go_ret
 exact ⟨_, rfl, o5, hb5⟩
set_option maxHeartbeats 1000000 in
theorem rhas_any (v : Value) (ns : List Nm) (x : Nm) (B : Nat) (w : World) (ho : w.ownsRow B 9 1 v ns.length (nv ns)) :
  Calls Tryz.prog 94 #[v, .string x] w fun e w' => e = .returned (.bool (inN x ns)) ∧ w' = w := by
 obtain ⟨av, cv, rfl, hnv⟩ := own_formN ho
 obtain ⟨N, HN⟩ : ∃ N, Hid (ns.length = N) := ⟨_, rfl⟩
 have HV : Hid (w.ownsRow B 9 1 (.slice av ns.length cv) ns.length (nv ns)) := ho
 obtain ⟨R, HR⟩ : ∃ R, Hid (inN x ns = R) := ⟨_, rfl⟩
 rw [HR.out]
 rw [HN.out] at hnv ⊢
 clear ho
 go_enter Tryz.func94, Tryz.ntmps94
 go_wp2_with fail
 go_loopw [4, 5] (fun s4 s5 wr => ∃ i : Nat, i ≤ N ∧ s4 = .bool false ∧ s5 = .int .i64 i ∧ Hid (∀ j y, j < i → ns[j]? = some y → y ≠ x) ∧ wr = w) (fun _ s5 _ => N - (intOf s5).toNat)
 case atStart => exact ⟨0, by omega, rfl, rfl, fun j y hj => by omega, rfl⟩
 case round =>
  obtain ⟨i, hi, rfl, rfl, HJ, hwr⟩ := hrel
  replace hwr := hwr.symm
  subst hwr
  by_cases hil : i < N
  ·have hcl : (i : Int) < (N : Int) := by omega
   have hi0 : (0 : Int) ≤ (i : Int) := by omega
   obtain ⟨y, hy⟩ : ∃ y, ns[i]? = some y := ⟨_, List.getElem?_eq_getElem (by rw [HN.out]; exact hil)⟩
   have hix : (nv ns)[i]? = some (.string y) := by unfold nv; rw [List.getElem?_map, hy]; rfl
   obtain ⟨gv, hgv, c1⟩ : ∃ g, av = some ⟨g, 0, none⟩ ∧ w.cell? ⟨g, i, none⟩ = some (.string y) := by
    rcases HV.out.2 with ⟨_, h0⟩ | ⟨g, cap, cur, h1, _⟩
    ·rw [HN.out] at h0; omega
    ·injection h1 with h1
     have hv2 := HV.out
     rw [h1] at hv2
     have hc := hv2.cells (g := g) rfl i _ hix
     rw [add_flat, Nat.zero_add] at hc
     exact ⟨g, h1, hc⟩
   subst hgv
   by_cases e : y = x
   ·subst e
    have HE : Hid (R = true) := by show _ = _; rw [← HR.out]; exact inN_iff.2 (List.mem_of_getElem? hy)
    have hq := nm_eqT y
    clear hy hix
    go_wp2
    go_ret
    exact ⟨by rw [HE.out]; rfl, rfl⟩
   ·have hq := nm_neqT e
    have HJ2 : Hid (∀ j z, j < i + 1 → ns[j]? = some z → z ≠ x) := fun j z hj hz => by
     by_cases e2 : j < i
     ·exact HJ.out j z e2 hz
     ·obtain rfl : j = i := by omega
      rw [hy] at hz
      cases hz
      exact e
    clear hy hix
    have He : Hid (¬ y = x) := e
    clear e
    go_wp2
    exact ⟨⟨i + 1, by omega, rfl, by go_num, HJ2.out, by first | rfl | trivial⟩, by simp [intOf]; omega⟩
  ·have hcl : ¬ (i : Int) < (N : Int) := by omega
   have HE : Hid (R = false) := by
    show _ = _
    rw [← HR.out]
    refine inN_no (fun hm => ?_)
    obtain ⟨j, hj⟩ := List.getElem?_of_mem hm
    have hjl := (List.getElem?_eq_some_iff.1 hj).1
    rw [HN.out] at hjl
    exact HJ.out j x (by omega) hj rfl
   go_wp2
   go_ret
   exact ⟨by rw [HE.out]; rfl, rfl⟩
end Go.Proofs.YtikkieaokfailaaGreatDoor

namespace Go.Proofs.YtikkieaokfailaaGreatDoor
open Go.RowKit Go.Joins
theorem RefAt.turn {w : World} {G : Nat → Prop} {rd : Nat} {k : Dk} (hR : RefAt w G rd k) : ∃ v, w.heap[rd]? = some (.cells (rcsR k v) 93 (0, 0)) ∧ ∀ w' k1, k1.fs = k.fs → k1.Good → w'.heap[rd]? = some (.cells (rcsR k1 v) 93 (0, 0)) → Keep (fun i => i = rd) w w' → Rp w G rd k1 w' := by
 obtain ⟨⟨v, sl, hblk, hrow, hvG, hlies, hslv⟩, hGrd, hlt, hg⟩ := hR
 refine ⟨v, hblk, fun w' k1 e1 g1 hb1 hk1 => ?_⟩
 refine ⟨G, ⟨⟨v, sl, hb1, ?_, hvG, ?_, hslv⟩, hGrd, fun i hi => Nat.lt_of_lt_of_le (hlt i hi) hk1.size, g1⟩, hk1.mono (fun i e => by subst e; exact hGrd), fun _ h => Or.inl h⟩
 ·rw [e1]
  refine own_keep hrow hk1 (fun g hg e => ?_)
  obtain ⟨cur, h2⟩ := own_blk hrow hg
  subst e
  rw [hblk] at h2
  cases h2
 ·rw [e1]
  intro x hx
  refine (hlies x hx).keep hk1 (fun g hg e => ?_) (fun _ h => h)
  obtain ⟨cur, h2⟩ := own_blk (hlies x hx).1 hg
  subst e
  rw [hblk] at h2
  cases h2
theorem drop_step {l : Fls} {i : Nat} {x : Nm × Fle} (h : l[i]? = some x) (s : Nm) : dropL (l.drop i) s = if x.1 = s then dropL (l.drop (i + 1)) s else x :: dropL (l.drop (i + 1)) s := by
 have hi : i < l.length := (List.getElem?_eq_some_iff.1 h).1
 have hx : l[i] = x := (List.getElem?_eq_some_iff.1 h).2
 rw [List.drop_eq_getElem_cons hi, hx]
 obtain ⟨n, g⟩ := x
 rfl
theorem RefAt.newRow {w : World} {G : Nat → Prop} {rd : Nat} {k : Dk} (hR : RefAt w G rd k) (P : Fls) (hg1 : ({ k with fs := P } : Dk).Good) (hsub : ∀ x ∈ P, x ∈ k.fs) :
  ∃ v sl, w.heap[rd]? = some (.cells (rcsR k v) 93 (0, 0)) ∧ w.ownsRow 0 113 3 v k.fs.length (ev sl k.fs) ∧ (∀ s, ∃ a n c, sl s = .slice a n c) ∧ ∀ w9 v9, w9.ownsRow w.heap.size 113 3 v9 P.length (ev sl P) → Below w.heap.size w w9 → Rp w G rd { k with fs := P } (w9.setCell ⟨rd, 0, none⟩ v9) ∧ Keep (fun i => i = rd) w (w9.setCell ⟨rd, 0, none⟩ v9) := by
 have hlt := hR.lt
 obtain ⟨⟨v, sl, hblk, hrow, hvG, hlies, hslv⟩, hGrd, _, _⟩ := hR
 refine ⟨v, sl, hblk, hrow, hslv, fun w9 v9 ho9 hb9 => ?_⟩
 have hrl : rd < w.heap.size := (Array.getElem?_eq_some_iff.1 hblk).1
 have hblk9 := box_below hblk hb9
 have hk9 : Keep (fun i => i = rd) w (w9.setCell ⟨rd, 0, none⟩ v9) := ((Keep.ofBelow (S := fun i => i = rd) hb9).setCell (p := ⟨rd, 0, none⟩) rfl _)
 refine ⟨⟨fun i => G i ∨ (w.heap.size ≤ i ∧ i < w9.heap.size), ⟨⟨v9, sl, ?_, ?_, ?_, ?_, hslv⟩, Or.inl hGrd, ?_, hg1⟩, hk9.mono (fun i e => by subst e; exact hGrd), fun i hi => hi.imp id (fun h => h.1)⟩, hk9⟩
 ·rw [block_setCell (i := 0) hblk9]
  rfl
 ·refine own_weak (own_keep ho9 ((Keep.refl (fun i => i = rd) w9).setCell (p := ⟨rd, 0, none⟩) rfl _) (fun g hg e => ?_)) (Nat.zero_le _)
  have := (ho9.lt g hg).1
  omega
 ·intro g hg
  exact Or.inr ⟨(ho9.lt g hg).1, (ho9.lt g hg).2⟩
 ·intro x hx
  have hx := hsub x hx
  refine (hlies x hx).keep hk9 (fun g hg e => ?_) (fun _ h => Or.inl h)
  obtain ⟨cur, h2⟩ := own_blk (hlies x hx).1 hg
  subst e
  rw [hblk] at h2; cases h2
 ·intro i hi
  have : (w9.setCell ⟨rd, 0, none⟩ v9).heap.size = w9.heap.size := by simp [World.setCell]
  rw [this]
  rcases hi with h | h
  ·exact Nat.lt_of_lt_of_le (hlt i h) hb9.size
  ·exact h.2
set_option maxRecDepth 100000 in
set_option maxHeartbeats 4000000 in
theorem refDrop_any (rd : Nat) (G : Nat → Prop) (k : Dk) (s : Nm) (hN9 : k.fs.length < 1000000) (w : World) (hR : RefAt w G rd k) :
  Calls Tryz.prog 123 #[.pointer (some ⟨rd, 0, none⟩), .string s] w fun e w' => e = .returned (.tuple #[]) ∧ Rp w G rd { k with fs := dropL k.fs s } w' ∧ Keep (fun i => i = rd) w w' := by
 obtain ⟨v, sl, hblk, hrow, hone, fin⟩ := hR.newRow (dropL k.fs s) (good_drop hR.good s) (fun x hx => mem_drop hx)
 obtain ⟨va, vc, rfl, hvl⟩ := row_form hrow
 obtain ⟨N, HN⟩ : ∃ N, Hid (k.fs.length = N) := ⟨_, rfl⟩
 obtain ⟨P, HP⟩ : ∃ P, Hid (dropL k.fs s = P) := ⟨_, rfl⟩
 have hq0 : w.cell? ⟨rd, 0, none⟩ = some (.slice va N vc) := by rw [cell_of_block hblk, ← HN.out]; rfl
 have HRw : Hid (w.ownsRow 0 113 3 (.slice va k.fs.length vc) k.fs.length (ev sl k.fs)) := hrow
 rw [HN.out] at hvl hN9
 rw [HP.out] at fin ⊢
 have hfd := fun w9 (hb : Below w.heap.size w w9) => (hb.cell (p := ⟨rd, 0, none⟩) (World.block_lt_of_cell? w _ hq0)).trans hq0
 have hfz : ∀ w9, Below w.heap.size w w9 → w9.frozen? ⟨rd, 0, none⟩ = false := fun w9 hb => unfrozen_of_block (box_below hblk hb) 0
 clear hrow hblk hR
 go_enter Tryz.func123, Tryz.ntmps123
 go_wp2_with fail
 go_loopw [4, 5] (fun s4 s5 wr => ∃ (i : Nat) (L : Fls), i ≤ N ∧ s5 = .int .i64 i ∧ L.length ≤ i ∧ Hid (L ++ dropL (k.fs.drop i) s = P) ∧ Hid (wr.ownsRow w.heap.size 113 3 s4 L.length (ev sl L)) ∧ Hid (Below w.heap.size w wr)) (fun _ s5 _ => N - (intOf s5).toNat)
 case atStart => exact ⟨0, [], by omega, rfl, by simp, by show [] ++ dropL (k.fs.drop 0) s = P; rw [List.drop_zero]; exact HP.out, ⟨rfl, Or.inl ⟨rfl, rfl⟩⟩, Below.refl _ _⟩
 case round =>
  obtain ⟨i, L, hi, rfl, hLl, HX, HO, HB⟩ := hrel
  have p0 := hfd wr HB.out
  by_cases hil : i < N
  ·have hcl : (i : Int) < (N : Int) := by omega
   have hpos : 0 < k.fs.length := by rw [HN.out]; omega
   obtain ⟨g, cap, e, hcap, hcm, hcs⟩ := row3 HRw.out hpos
   cases e
   rw [HN.out] at hcap
   have hik : i < k.fs.length := by rw [HN.out]; exact hil
   obtain ⟨x, hx⟩ : ∃ x, k.fs[i]? = some x := ⟨_, List.getElem?_eq_getElem hik⟩
   obtain ⟨hc0, hc1, hc2⟩ := hcs i x hx
   obtain ⟨ax, nx, cx, hsx⟩ := hone x.1
   rw [hsx] at hc1
   have hlow := fun (q : Nat) (u : Value) (h : w.cell? ⟨g, q, none⟩ = some u) => (HB.out.cell (p := ⟨g, q, none⟩) (World.block_lt_of_cell? w _ h)).trans h
   have d0 := hlow _ _ hc0
   have d1 := hlow _ _ hc1
   have d2 := hlow _ _ hc2
   have Hsx : Hid (sl x.1 = .slice ax nx cx) := hsx
   have hX := HX.out
   rw [drop_step hx] at hX
   have hi0 : (0 : Int) ≤ (i : Int) := by omega
   clear hcs hc0 hc1 hc2 hlow hsx hx HX
   by_cases hxs : x.1 = s
   ·rw [if_pos hxs] at hX
    have HX : Hid (L ++ dropL (k.fs.drop (i + 1)) s = P) := hX
    rw [hxs] at d0
    have hne := nm_eq s
    clear hX hxs Hsx
    go_wp2
    exact ⟨⟨i + 1, L, by omega, by go_num, by omega, HX, HO, HB⟩, by simp [intOf]; omega⟩
   ·rw [if_neg hxs] at hX
    have HX : Hid (L ++ [x] ++ dropL (k.fs.drop (i + 1)) s = P) := by show _ = _; rw [List.append_assoc]; exact hX
    have hne := nm_neq hxs
    clear hX hxs
    go_wp2_with (first
     | (at_builtin; refine wp_app1 91 113 (.agg #[.string ByteArray.empty, .slice none 0 0, .int .i64 0]) 3 48 Tryz.underlying91 infoFile rfl (by decide) (by decide) rfl _ _ rfl w.heap.size _ L.length _ rfl HO.out #[.string x.1, .slice ax nx cx, .int .i64 (x.2.safe : Int)] rfl (by simp [Value.oneCell']) rfl (by omega) HB.out.size ?_; intro v' w1 ho1 hk1 hv1))
    have hB1 : Below w.heap.size w w1 := HB.out.trans (hk1.below HB.out.size (fun j hj => (HO.out.lt j hj).1))
    refine ⟨⟨i + 1, L ++ [x], by omega, by go_num, by simp; omega, HX, ?_, hB1⟩, by simp [intOf]; omega⟩
    show World.ownsRow _ _ _ _ _ _ _
    rw [ev_snoc, Hsx.out, List.length_append]
    exact ho1
  ·obtain rfl : i = N := by omega
   have hcl : ¬ (i : Int) < (i : Int) := by omega
   have hX := HX.out
   rw [List.drop_eq_nil_of_le (by rw [HN.out]; exact Nat.le_refl _)] at hX
   have hX2 : L = P := by rw [← hX]; show L = L ++ []; rw [List.append_nil]
   have hO := HO.out
   rw [hX2] at hO
   have hf := fin wr _ hO HB.out
   have hz := hfz wr HB.out
   obtain ⟨av, cv, hv, _⟩ := row_form hO
   subst hv
   clear hX HX hX2 HO hO fin hfd hfz
   go_wp2
   go_end0
   exact ⟨rfl, hf⟩
theorem step_first (k : Dk) (s : Nm) (err : Fle → Nat) (go : Dk → Fle → Dk) :
  (firstK k s true ≠ 0 ∧ stepK k s err go = (firstK k s true, k)) ∨
  (firstK k s true = 0 ∧ k.off = false ∧ isNm s = true ∧ ∃ f, look k.fs s = some f ∧ stepK k s err go = if err f ≠ 0 then (err f, k) else if (passK k).1 ≠ 0 then passK k else (0, go (passK k).2 f)) := by
 unfold firstK stepK
 cases on : k.off with
 | true => exact Or.inl ⟨by simp, by simp⟩
 | false =>
  cases hn : isNm s with
  | false => exact Or.inl ⟨by simp, by simp⟩
  | true =>
   cases hl : look k.fs s with
   | none => exact Or.inl ⟨by simp, by simp⟩
   | some f => exact Or.inr ⟨by simp, rfl, rfl, f, rfl, by simp⟩
set_option maxHeartbeats 2000000 in
theorem refRemove_any (rd : Nat) (G : Nat → Prop) (k : Dk) (s : Nm) (hs : s.size ≤ 9223372036854775807) (hst : k.steps < 1000000) (hfl : k.fs.length < 1000000) (w : World) (hR : RefAt w G rd k) :
  Calls Tryz.prog 81 #[.pointer (some ⟨rd, 0, none⟩), .string s] w fun e w' => e = .returned (.int .i64 (removeK k s).1) ∧ Rp w G rd (removeK k s).2 w' := by
 have hF := first_any rd G k s hs true w hR
 unfold removeK
 rcases step_first k s (fun _ => 0) (fun k _ => { k with fs := dropL k.fs s }) with ⟨h0, e⟩ | ⟨h0, on, hnm, f, hlk, e⟩
 ·rw [e]
  dsimp only
  obtain ⟨en, hen⟩ : ∃ en, firstK k s true = en := ⟨_, rfl⟩
  rw [hen] at hF h0 ⊢
  have hne : ((en : Int) == 0) = false := by simp; omega
  have hRp := Rp.refl hR
  clear e hen hR
  go_enter Tryz.func81, Tryz.ntmps81
  go_wp2_with (first
   | (go_at_call 55; refine hF.mono ?_; rintro e w1 ⟨rfl, rfl⟩))
  go_ret
  exact ⟨rfl, hRp⟩
 ·rw [e, if_neg (by simp)]
  rw [h0] at hF
  have hP := power_any rd G k hst w hR
  have hpfs := pass_fs k
  obtain ⟨P, HPe⟩ : ∃ P, Hid (passK k = P) := ⟨_, rfl⟩
  rw [HPe.out] at hP hpfs ⊢
  obtain ⟨en, k1⟩ := P
  dsimp only at hP hpfs ⊢
  clear e h0 HPe
  by_cases hen : en = 0
  ·subst hen
   rw [if_neg (by simp)]
   go_enter Tryz.func81, Tryz.ntmps81
   go_wp2_with (first
    | (go_at_call 55; refine hF.mono ?_; rintro e w1 ⟨rfl, hw1⟩; replace hw1 := hw1.symm; subst hw1)
    | (go_at_call 56; refine hP.mono ?_; rintro e w2 ⟨rfl, G2, hR2, hk2, hG2⟩)
    | (go_at_call 123; refine (refDrop_any rd G2 k1 s (by rw [hpfs]; exact hfl) _ hR2).mono ?_; rintro e w3 ⟨rfl, hRp, _⟩))
   go_ret
   exact ⟨rfl, Rp.next hk2 hG2 hRp⟩
  ·rw [if_pos hen]
   have hne : ((en : Int) == 0) = false := by simp; omega
   go_enter Tryz.func81, Tryz.ntmps81
   go_wp2_with (first
    | (go_at_call 55; refine hF.mono ?_; rintro e w1 ⟨rfl, hw1⟩; replace hw1 := hw1.symm; subst hw1)
    | (go_at_call 56; refine hP.mono ?_; rintro e w2 ⟨rfl, hRp⟩))
   go_ret
   exact ⟨rfl, hRp⟩
end Go.Proofs.YtikkieaokfailaaGreatDoor
