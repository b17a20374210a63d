/- Texts of one seat, one behind the other: RoG, RoH, RoI, RoJ, RoK, RoL, SuH. -/
import Derived.Test.YtppdopcghnfapaaDoorM4
import Derived.Test.YtppdopcghnfapaaDoorM3
import Derived.Shelf.Strconv.Clone
import Derived.Test.YtppdopcghnfapaaDoorM1
set_option maxRecDepth 100000
namespace Go.Proofs.YtppdopcghnfapaaDoor
open Go.RowKit Go.Joins
set_option maxHeartbeats 3200000 in
theorem hear_1 (w : World) (q mb : Nat) (R : Ro) (h : RA w q mb R) (c : ByteArray) (hc : c.size ≤ 1000000) (mail n : Int) (x : En) (hx : ofE R c = x) (hxc : x.c.size ≤ 1000000) (t : Hf) (tl : Int) (en : Nat) (hA : hearA x.h mail n = ((t, tl), en))
  (hl : R.ks.length < 900000) (hk : 0 ≤ R.kept ∧ R.kept < 1000000) (hv : 0 ≤ R.ver ∧ R.ver < 9223372036854775807) (hen : en ≠ 0) :
  Calls Tryd.prog 19 #[.pointer (some ⟨q, 0, none⟩), .string c, .int .i64 mail, .int .u64 n] w fun e w' => e = .panicked (gaveR en) ∧ RA w' q mb (R) ∧ Keep (fun j => j = q ∨ j = mb) w w' := by
 have cA : Hid (∀ w, Calls Tryd.prog 33 #[.agg #[.int .i64 x.h.o, .int .u64 x.h.n, .int .i64 x.h.i, .int .u64 x.h.m], .int .i64 mail, .int .u64 n] w fun e w' => e = .returned (.tuple #[.agg #[.int .i64 t.o, .int .u64 t.n, .int .i64 t.i, .int .u64 t.m], .int .i64 tl, .int .i64 en]) ∧ Below w.heap.size w w') := by
  show ∀ w, _
  intro w
  have := Hear_any x.h mail n w
  rw [hA] at this
  exact this
 have cO := of_any (w.alloc (.cells (hec 0 false false) 40)) q mb R (h.below (below1 _ _)) c hc
 rw [hx] at cO
 have HB : Hid ((-1000000 < R.kept ∧ R.kept < 1000000) ∧ (0 ≤ R.ver ∧ R.ver < 9223372036854775807) ∧ R.ks.length < 900000 ∧ x.c.size ≤ 1000000 ∧ 0 ≤ R.kept) := ⟨⟨by omega, hk.2⟩, hv, hl, hxc, hk.1⟩
 have HR : Hid (RA w q mb R) := h
 have z0 : ((en : Int) == 0) = false := by rw [beq_eq_false_iff_ne]; omega
 have HE : Hid (en ≠ 0) := hen
 clear hen
 clear hA hx hl hk hv hxc h hc
 rw [show env x = .agg (enc x) from rfl] at cO
 go_enter Tryd.func19, Tryd.ntmps19
 unfold enc gsv at cO
 go_upto_region 2 with (first
  | (go_at_call 27; refine cO.mono ?_; clear cO; rintro e w1 ⟨rfl, hb1⟩))
 have P0 : EnAt (w1.alloc (.cells (enc x) 47)) w1.heap.size x ∧ RA (w1.alloc (.cells (enc x) 47)) q mb R ∧ (w1.alloc (.cells (enc x) 47)).heap[w.heap.size]? = some (.cells (hec 0 false false) 40 (0, 0)) ∧ Keep (fun j => j = q ∨ j = mb) w (w1.alloc (.cells (enc x) 47)) ∧ w.heap.size < w1.heap.size := by
  have e1 : (w.alloc (.cells (hec 0 false false) 40)).heap.size = w.heap.size + 1 := by simp
  have s1 := hb1.size
  have k1 : Keep (fun j => j = q ∨ j = mb) w w1 := (Keep.ofBelow (below1 w _)).trans (Keep.ofBelow hb1)
  exact ⟨EnAt.made _ _, ((HR.out.below (below1 w _)).below hb1).below (below1 _ _), box_below (box_below (push_at _ _ rfl) hb1) (below1 _ _), k1.trans (Keep.ofBelow (below1 _ _)), by omega⟩
 unfold enc gsv at P0
 obtain ⟨b1, Hb1⟩ : ∃ b1, Hid (w1.heap.size = b1) := ⟨_, rfl⟩
 rw [Hb1.out] at P0 ⊢
 generalize w1.alloc _ = w2 at P0 ⊢
 clear hb1
 have PP : Hid _ := P0
 have c4 := P0.1.c4
 have c5 := P0.1.c5
 have c6 := P0.1.c6
 have c7 := P0.1.c7
 clear P0
 have cA2 := cA.out w2
 go_upto_region 3 with (first
  | (go_at_call 33; refine cA2.mono ?_; clear cA2; rintro e w3 ⟨rfl, hb3⟩))
 have HI : Hid (AInv w q mb (hec 0 false false) 40 R b1 x w3.heap.size t (w3.alloc (.cells (hfc t) 45))) := by
  obtain ⟨p1, p2, p3, p4, p5⟩ := PP.out
  have l1 := p1.lt
  have l2 := hb3.size
  exact ⟨(p2.below hb3).below (below1 _ _), (p1.carry hb3).carry (below1 _ _), push_at _ _ rfl, box_below (box_below p3 hb3) (below1 _ _), (p4.trans (Keep.ofBelow hb3)).trans (Keep.ofBelow (below1 _ _)), HR.out.lt, HR.out.map.lt, by have := Hb1.out; omega, by omega⟩
 unfold hfc at HI
 clear c4 c5 c6 c7 hb3 cA
 obtain ⟨g, Hg⟩ : ∃ g, Hid (w3.heap.size = g) := ⟨_, rfl⟩
 rw [Hg.out] at HI ⊢
 generalize w3.alloc _ = wc at HI ⊢
 have hd0 := fun w => demR_no en w
 go_wp2_with (first
  | (go_at_call 24; refine (hd0 _).mono ?_; rintro e w3 ⟨rfl, hw3⟩; subst hw3))
 exact ⟨rfl, rfl, HI.out.ra, HI.out.kp⟩
set_option maxHeartbeats 3200000 in
theorem hear_2 (w : World) (q mb : Nat) (R : Ro) (h : RA w q mb R) (c : ByteArray) (hc : c.size ≤ 1000000) (mail n : Int) (x : En) (hx : ofE R c = x) (hxc : x.c.size ≤ 1000000) (t : Hf) (tl : Int) (en : Nat) (hA : hearA x.h mail n = ((t, tl), en))
  (hl : R.ks.length < 900000) (hk : 0 ≤ R.kept ∧ R.kept < 1000000) (hv : 0 ≤ R.ver ∧ R.ver < 9223372036854775807) (hen : en = 0) (hml : mail = 1) (hth : thr x = false) (hrq : decide ((R.ks.length : Int) - R.kept ≥ R.ak) = true) :
  Calls Tryd.prog 19 #[.pointer (some ⟨q, 0, none⟩), .string c, .int .i64 mail, .int .u64 n] w fun e w' => GaveV 0 (.agg (hec 0 true false)) e ∧ RA w' q mb (R) ∧ Keep (fun j => j = q ∨ j = mb) w w' := by
 have cA : Hid (∀ w, Calls Tryd.prog 33 #[.agg #[.int .i64 x.h.o, .int .u64 x.h.n, .int .i64 x.h.i, .int .u64 x.h.m], .int .i64 mail, .int .u64 n] w fun e w' => e = .returned (.tuple #[.agg #[.int .i64 t.o, .int .u64 t.n, .int .i64 t.i, .int .u64 t.m], .int .i64 tl, .int .i64 en]) ∧ Below w.heap.size w w') := by
  show ∀ w, _
  intro w
  have := Hear_any x.h mail n w
  rw [hA] at this
  exact this
 have cO := of_any (w.alloc (.cells (hec 0 false false) 40)) q mb R (h.below (below1 _ _)) c hc
 rw [hx] at cO
 have HB : Hid ((-1000000 < R.kept ∧ R.kept < 1000000) ∧ (0 ≤ R.ver ∧ R.ver < 9223372036854775807) ∧ R.ks.length < 900000 ∧ x.c.size ≤ 1000000 ∧ 0 ≤ R.kept) := ⟨⟨by omega, hk.2⟩, hv, hl, hxc, hk.1⟩
 have HR : Hid (RA w q mb R) := h
 have HEN : Hid (en = 0) := hen
 clear hen
 have HML : Hid (mail = 1) := hml
 clear hml
 have HTh : Hid (thr x = false) := hth
 clear hth
 have HRq : Hid (decide ((R.ks.length : Int) - R.kept ≥ R.ak) = true) := hrq
 clear hrq
 clear hA hx hl hk hv hxc h hc
 rw [show env x = .agg (enc x) from rfl] at cO
 go_enter Tryd.func19, Tryd.ntmps19
 unfold enc gsv at cO
 go_upto_region 2 with (first
  | (go_at_call 27; refine cO.mono ?_; clear cO; rintro e w1 ⟨rfl, hb1⟩))
 have P0 : EnAt (w1.alloc (.cells (enc x) 47)) w1.heap.size x ∧ RA (w1.alloc (.cells (enc x) 47)) q mb R ∧ (w1.alloc (.cells (enc x) 47)).heap[w.heap.size]? = some (.cells (hec 0 false false) 40 (0, 0)) ∧ Keep (fun j => j = q ∨ j = mb) w (w1.alloc (.cells (enc x) 47)) ∧ w.heap.size < w1.heap.size := by
  have e1 : (w.alloc (.cells (hec 0 false false) 40)).heap.size = w.heap.size + 1 := by simp
  have s1 := hb1.size
  have k1 : Keep (fun j => j = q ∨ j = mb) w w1 := (Keep.ofBelow (below1 w _)).trans (Keep.ofBelow hb1)
  exact ⟨EnAt.made _ _, ((HR.out.below (below1 w _)).below hb1).below (below1 _ _), box_below (box_below (push_at _ _ rfl) hb1) (below1 _ _), k1.trans (Keep.ofBelow (below1 _ _)), by omega⟩
 unfold enc gsv at P0
 obtain ⟨b1, Hb1⟩ : ∃ b1, Hid (w1.heap.size = b1) := ⟨_, rfl⟩
 rw [Hb1.out] at P0 ⊢
 generalize w1.alloc _ = w2 at P0 ⊢
 clear hb1
 have PP : Hid _ := P0
 have c4 := P0.1.c4
 have c5 := P0.1.c5
 have c6 := P0.1.c6
 have c7 := P0.1.c7
 clear P0
 have cA2 := cA.out w2
 go_upto_region 3 with (first
  | (go_at_call 33; refine cA2.mono ?_; clear cA2; rintro e w3 ⟨rfl, hb3⟩))
 have HI : Hid (AInv w q mb (hec 0 false false) 40 R b1 x w3.heap.size t (w3.alloc (.cells (hfc t) 45))) := by
  obtain ⟨p1, p2, p3, p4, p5⟩ := PP.out
  have l1 := p1.lt
  have l2 := hb3.size
  exact ⟨(p2.below hb3).below (below1 _ _), (p1.carry hb3).carry (below1 _ _), push_at _ _ rfl, box_below (box_below p3 hb3) (below1 _ _), (p4.trans (Keep.ofBelow hb3)).trans (Keep.ofBelow (below1 _ _)), HR.out.lt, HR.out.map.lt, by have := Hb1.out; omega, by omega⟩
 unfold hfc at HI
 clear c4 c5 c6 c7 hb3 cA
 obtain ⟨g, Hg⟩ : ∃ g, Hid (w3.heap.size = g) := ⟨_, rfl⟩
 rw [Hg.out] at HI ⊢
 generalize w3.alloc _ = wc at HI ⊢
 have hml := HML.out
 subst hml
 have hen := HEN.out
 subst hen
 have hd1 := fun w => demR_ok 0 w
 go_upto_region 4 with (first
  | (go_at_call 24; refine (hd1 _).mono ?_; rintro e w3 ⟨rfl, hw3⟩; replace hw3 := hw3.symm; subst hw3))
 refine wp_region_lx (fun w' => AInv w q mb (hec 0 false false) 40 R b1 x g t w') [] 16 (by kernel_rfl) (by kernel_rfl) ?_
 have HS0 : AInv w q mb (hec 0 false false) 40 R b1 x g t wc.drew := HI.out.below (Below.refl _ _).drew
 generalize wc.drew = W at HS0 ⊢
 refine lx_r 0 (.int .i64 1) HS0 ?_; simp only [lxa, lxb, lxc]
 refine lx_r 1 (.bool true) HS0 ?_; simp only [lxa, lxb, lxc]
 refine lx_r 2 (.bool true) HS0 ?_; simp only [lxa, lxb, lxc]
 refine lx_r 3 (env x) HS0 ?_ (hv := fun w' hS => by exact exec_load_en (.tmp 9) rfl b1 rfl x hS.en); simp only [lxa, lxb, lxc]
 refine lx_one 4 (by kernel_rfl) (stepT_call 34 ?c4 rfl rfl rfl ?d4 ?_)
 case d4 => first | (go_simp; rfl) | go_simp
 refine (isThere_any x W).mono ?_
 rintro e w5 ⟨rfl, hb5⟩
 have HS1 := HS0.below hb5
 refine ⟨_, rfl, fun _ => HS1, ?_⟩
 rw [HTh.out]
 simp only [lxa, lxb, lxc]
 refine lx_r 5 (.bool true) HS1 ?_; simp only [lxa, lxb, lxc]
 refine lx_r 6 (.bool true) HS1 ?_; simp only [lxa, lxb, lxc]
 refine lx_r 7 (.bool true) HS1 ?_; simp only [lxa, lxb, lxc]
 refine lx_r 8 (.pointer (some ⟨q, 0, none⟩)) HS1 ?_; simp only [lxa, lxb, lxc]
 refine lx_r 10 (.pointer (some ⟨q, 0, none⟩)) HS1 ?_; simp only [lxa, lxb, lxc]
 refine lx_r 11 (.pointer (some ⟨q, 0, none⟩)) HS1 ?_; simp only [lxa, lxb, lxc]
 refine lx_r 12 (.pointer (some ⟨q, 1, none⟩)) HS1 ?_; simp only [lxa, lxb, lxc]
 refine lx_r 13 (.int .i64 R.ak) HS1 ?_ (hv := fun w' hS => by have p := hS.ra.c1; first | (go_simp; rfl) | go_simp); simp only [lxa, lxb, lxc]
 refine lx_one 9 (by kernel_rfl) (stepT_call 35 ?c9 rfl rfl rfl ?d9 ?_)
 case d9 => first | (go_simp; rfl) | go_simp
 refine (reqs_any w5 q mb R HS1.ra (by have := HB.out.2.2.1; omega) HB.out.2.2.2.2 (by have := HB.out.1; omega)).mono ?_
 rintro e w6 ⟨rfl, hb6⟩
 have HS2 := HS1.below hb6
 refine ⟨_, rfl, fun _ => HS2, ?_⟩
 simp only [lxa, lxb, lxc]
 refine lx_r 14 (.bool true) HS2 ?_ (hv := fun w' hS => by have p := HRq.out; first | (go_simp; rfl) | go_simp); simp only [lxa, lxb, lxc]
 refine lx_r 15 (.bool true) HS2 ?_; simp only [lxa, lxb, lxc]
 refine lx_nil (by kernel_rfl) ?_
 have HI2 : Hid (AInv w q mb (hec 0 false false) 40 R b1 x g t w6) := HS2
 clear HS0 HS1 HS2
 go_wp2_with (first
  | (refine wpList_store_row rfl 40 (.tmp 8) (.tmp 45) rfl w.heap.size (hec 0 true false) rfl rfl 40 _ HI2.out.ac (by rw [infoHeard]; rfl) (by rfl) (hec_one _ _ _) ?_))
 obtain ⟨a1, a2, a3⟩ := HI2.out.answer (hec 0 true false)
 have hld := run_loadVar_row _ w.heap.size 40 40 _ (0, 0) _ a2 Tryd.underlying40 rfl (by rw [infoHeard]; rfl)
 first | exact bodyPost_ret (res_row rfl _ _ _ _ rfl hld) rfl ⟨gv_ok rfl, a1, a3⟩ | exact bodyPost_end (res_row rfl _ _ _ _ rfl hld) rfl ⟨gv_ok rfl, a1, a3⟩
set_option maxHeartbeats 3200000 in
theorem hear_3 (w : World) (q mb : Nat) (R : Ro) (h : RA w q mb R) (c : ByteArray) (hc : c.size ≤ 1000000) (mail n : Int) (x : En) (hx : ofE R c = x) (hxc : x.c.size ≤ 1000000) (t : Hf) (tl : Int) (en : Nat) (hA : hearA x.h mail n = ((t, tl), en))
  (hl : R.ks.length < 900000) (hk : 0 ≤ R.kept ∧ R.kept < 1000000) (hv : 0 ≤ R.ver ∧ R.ver < 9223372036854775807) (hen : en = 0) (hml : mail = 1) (hth : thr x = false) (hrq : decide ((R.ks.length : Int) - R.kept ≥ R.ak) = false) :
  Calls Tryd.prog 19 #[.pointer (some ⟨q, 0, none⟩), .string c, .int .i64 mail, .int .u64 n] w fun e w' => GaveV 0 (.agg (hec tl false (chg x t))) e ∧ RA w' q mb (turnR R x t) ∧ Keep (fun j => j = q ∨ j = mb) w w' := by
 have cA : Hid (∀ w, Calls Tryd.prog 33 #[.agg #[.int .i64 x.h.o, .int .u64 x.h.n, .int .i64 x.h.i, .int .u64 x.h.m], .int .i64 mail, .int .u64 n] w fun e w' => e = .returned (.tuple #[.agg #[.int .i64 t.o, .int .u64 t.n, .int .i64 t.i, .int .u64 t.m], .int .i64 tl, .int .i64 en]) ∧ Below w.heap.size w w') := by
  show ∀ w, _
  intro w
  have := Hear_any x.h mail n w
  rw [hA] at this
  exact this
 have cO := of_any (w.alloc (.cells (hec 0 false false) 40)) q mb R (h.below (below1 _ _)) c hc
 rw [hx] at cO
 have HB : Hid ((-1000000 < R.kept ∧ R.kept < 1000000) ∧ (0 ≤ R.ver ∧ R.ver < 9223372036854775807) ∧ R.ks.length < 900000 ∧ x.c.size ≤ 1000000 ∧ 0 ≤ R.kept) := ⟨⟨by omega, hk.2⟩, hv, hl, hxc, hk.1⟩
 have HR : Hid (RA w q mb R) := h
 have HEN : Hid (en = 0) := hen
 clear hen
 have HML : Hid (mail = 1) := hml
 clear hml
 have HTh : Hid (thr x = false) := hth
 clear hth
 have HRq : Hid (decide ((R.ks.length : Int) - R.kept ≥ R.ak) = false) := hrq
 clear hrq
 clear hA hx hl hk hv hxc h hc
 rw [show env x = .agg (enc x) from rfl] at cO
 go_enter Tryd.func19, Tryd.ntmps19
 unfold enc gsv at cO
 go_upto_region 2 with (first
  | (go_at_call 27; refine cO.mono ?_; clear cO; rintro e w1 ⟨rfl, hb1⟩))
 have P0 : EnAt (w1.alloc (.cells (enc x) 47)) w1.heap.size x ∧ RA (w1.alloc (.cells (enc x) 47)) q mb R ∧ (w1.alloc (.cells (enc x) 47)).heap[w.heap.size]? = some (.cells (hec 0 false false) 40 (0, 0)) ∧ Keep (fun j => j = q ∨ j = mb) w (w1.alloc (.cells (enc x) 47)) ∧ w.heap.size < w1.heap.size := by
  have e1 : (w.alloc (.cells (hec 0 false false) 40)).heap.size = w.heap.size + 1 := by simp
  have s1 := hb1.size
  have k1 : Keep (fun j => j = q ∨ j = mb) w w1 := (Keep.ofBelow (below1 w _)).trans (Keep.ofBelow hb1)
  exact ⟨EnAt.made _ _, ((HR.out.below (below1 w _)).below hb1).below (below1 _ _), box_below (box_below (push_at _ _ rfl) hb1) (below1 _ _), k1.trans (Keep.ofBelow (below1 _ _)), by omega⟩
 unfold enc gsv at P0
 obtain ⟨b1, Hb1⟩ : ∃ b1, Hid (w1.heap.size = b1) := ⟨_, rfl⟩
 rw [Hb1.out] at P0 ⊢
 generalize w1.alloc _ = w2 at P0 ⊢
 clear hb1
 have PP : Hid _ := P0
 have c4 := P0.1.c4
 have c5 := P0.1.c5
 have c6 := P0.1.c6
 have c7 := P0.1.c7
 clear P0
 have cA2 := cA.out w2
 go_upto_region 3 with (first
  | (go_at_call 33; refine cA2.mono ?_; clear cA2; rintro e w3 ⟨rfl, hb3⟩))
 have HI : Hid (AInv w q mb (hec 0 false false) 40 R b1 x w3.heap.size t (w3.alloc (.cells (hfc t) 45))) := by
  obtain ⟨p1, p2, p3, p4, p5⟩ := PP.out
  have l1 := p1.lt
  have l2 := hb3.size
  exact ⟨(p2.below hb3).below (below1 _ _), (p1.carry hb3).carry (below1 _ _), push_at _ _ rfl, box_below (box_below p3 hb3) (below1 _ _), (p4.trans (Keep.ofBelow hb3)).trans (Keep.ofBelow (below1 _ _)), HR.out.lt, HR.out.map.lt, by have := Hb1.out; omega, by omega⟩
 unfold hfc at HI
 clear c4 c5 c6 c7 hb3 cA
 obtain ⟨g, Hg⟩ : ∃ g, Hid (w3.heap.size = g) := ⟨_, rfl⟩
 rw [Hg.out] at HI ⊢
 generalize w3.alloc _ = wc at HI ⊢
 have hml := HML.out
 subst hml
 have hen := HEN.out
 subst hen
 have hd1 := fun w => demR_ok 0 w
 go_upto_region 4 with (first
  | (go_at_call 24; refine (hd1 _).mono ?_; rintro e w3 ⟨rfl, hw3⟩; replace hw3 := hw3.symm; subst hw3))
 refine wp_region_lx (fun w' => AInv w q mb (hec 0 false false) 40 R b1 x g t w') [] 16 (by kernel_rfl) (by kernel_rfl) ?_
 have HS0 : AInv w q mb (hec 0 false false) 40 R b1 x g t wc.drew := HI.out.below (Below.refl _ _).drew
 generalize wc.drew = W at HS0 ⊢
 refine lx_r 0 (.int .i64 1) HS0 ?_; simp only [lxa, lxb, lxc]
 refine lx_r 1 (.bool true) HS0 ?_; simp only [lxa, lxb, lxc]
 refine lx_r 2 (.bool true) HS0 ?_; simp only [lxa, lxb, lxc]
 refine lx_r 3 (env x) HS0 ?_ (hv := fun w' hS => by exact exec_load_en (.tmp 9) rfl b1 rfl x hS.en); simp only [lxa, lxb, lxc]
 refine lx_one 4 (by kernel_rfl) (stepT_call 34 ?c4 rfl rfl rfl ?d4 ?_)
 case d4 => first | (go_simp; rfl) | go_simp
 refine (isThere_any x W).mono ?_
 rintro e w5 ⟨rfl, hb5⟩
 have HS1 := HS0.below hb5
 refine ⟨_, rfl, fun _ => HS1, ?_⟩
 rw [HTh.out]
 simp only [lxa, lxb, lxc]
 refine lx_r 5 (.bool true) HS1 ?_; simp only [lxa, lxb, lxc]
 refine lx_r 6 (.bool true) HS1 ?_; simp only [lxa, lxb, lxc]
 refine lx_r 7 (.bool true) HS1 ?_; simp only [lxa, lxb, lxc]
 refine lx_r 8 (.pointer (some ⟨q, 0, none⟩)) HS1 ?_; simp only [lxa, lxb, lxc]
 refine lx_r 10 (.pointer (some ⟨q, 0, none⟩)) HS1 ?_; simp only [lxa, lxb, lxc]
 refine lx_r 11 (.pointer (some ⟨q, 0, none⟩)) HS1 ?_; simp only [lxa, lxb, lxc]
 refine lx_r 12 (.pointer (some ⟨q, 1, none⟩)) HS1 ?_; simp only [lxa, lxb, lxc]
 refine lx_r 13 (.int .i64 R.ak) HS1 ?_ (hv := fun w' hS => by have p := hS.ra.c1; first | (go_simp; rfl) | go_simp); simp only [lxa, lxb, lxc]
 refine lx_one 9 (by kernel_rfl) (stepT_call 35 ?c9 rfl rfl rfl ?d9 ?_)
 case d9 => first | (go_simp; rfl) | go_simp
 refine (reqs_any w5 q mb R HS1.ra (by have := HB.out.2.2.1; omega) HB.out.2.2.2.2 (by have := HB.out.1; omega)).mono ?_
 rintro e w6 ⟨rfl, hb6⟩
 have HS2 := HS1.below hb6
 refine ⟨_, rfl, fun _ => HS2, ?_⟩
 simp only [lxa, lxb, lxc]
 refine lx_r 14 (.bool false) HS2 ?_ (hv := fun w' hS => by have p := HRq.out; first | (go_simp; rfl) | go_simp); simp only [lxa, lxb, lxc]
 refine lx_r 15 (.bool false) HS2 ?_; simp only [lxa, lxb, lxc]
 refine lx_nil (by kernel_rfl) ?_
 have HI2 : Hid (AInv w q mb (hec 0 false false) 40 R b1 x g t w6) := HS2
 clear HS0 HS1 HS2
 have hT := turn_any w6 q mb R HI2.out.ra x t HB.out.2.2.2.1 HB.out.2.2.1 HB.out.1 HB.out.2.1
 go_wp2_with (first
  | (refine wp_load_en rfl (.tmp 9) rfl b1 rfl x HI2.out.en ?_)
  | (refine wp_load_half rfl (.tmp 10) rfl g rfl t HI2.out.hf ?_)
  | (go_at_call 30; refine hT.mono ?_; clear hT; rintro e w6 ⟨rfl, hr6, hk6⟩; have HI4 : Hid (AInv w q mb (hec 0 false false) 40 (turnR R x t) b1 x g t w6) := HI2.out.turned hr6 hk6)
  | (refine wpList_store_row rfl 40 (.tmp 8) (.tmp 51) rfl w.heap.size (hec tl false (chg x t)) rfl rfl 40 _ HI4.out.ac (by rw [infoHeard]; rfl) (by rfl) (hec_one _ _ _) ?_))
 obtain ⟨a1, a2, a3⟩ := HI4.out.answer (hec tl false (chg x t))
 have hld := run_loadVar_row _ w.heap.size 40 40 _ (0, 0) _ a2 Tryd.underlying40 rfl (by rw [infoHeard]; rfl)
 first | exact bodyPost_ret (res_row rfl _ _ _ _ rfl hld) rfl ⟨gv_ok rfl, a1, a3⟩ | exact bodyPost_end (res_row rfl _ _ _ _ rfl hld) rfl ⟨gv_ok rfl, a1, a3⟩
set_option maxHeartbeats 3200000 in
theorem hear_4 (w : World) (q mb : Nat) (R : Ro) (h : RA w q mb R) (c : ByteArray) (hc : c.size ≤ 1000000) (mail n : Int) (x : En) (hx : ofE R c = x) (hxc : x.c.size ≤ 1000000) (t : Hf) (tl : Int) (en : Nat) (hA : hearA x.h mail n = ((t, tl), en))
  (hl : R.ks.length < 900000) (hk : 0 ≤ R.kept ∧ R.kept < 1000000) (hv : 0 ≤ R.ver ∧ R.ver < 9223372036854775807) (hen : en = 0) (hml : mail = 1) (hth : thr x = true) :
  Calls Tryd.prog 19 #[.pointer (some ⟨q, 0, none⟩), .string c, .int .i64 mail, .int .u64 n] w fun e w' => GaveV 0 (.agg (hec tl false (chg x t))) e ∧ RA w' q mb (turnR R x t) ∧ Keep (fun j => j = q ∨ j = mb) w w' := by
 have cA : Hid (∀ w, Calls Tryd.prog 33 #[.agg #[.int .i64 x.h.o, .int .u64 x.h.n, .int .i64 x.h.i, .int .u64 x.h.m], .int .i64 mail, .int .u64 n] w fun e w' => e = .returned (.tuple #[.agg #[.int .i64 t.o, .int .u64 t.n, .int .i64 t.i, .int .u64 t.m], .int .i64 tl, .int .i64 en]) ∧ Below w.heap.size w w') := by
  show ∀ w, _
  intro w
  have := Hear_any x.h mail n w
  rw [hA] at this
  exact this
 have cO := of_any (w.alloc (.cells (hec 0 false false) 40)) q mb R (h.below (below1 _ _)) c hc
 rw [hx] at cO
 have HB : Hid ((-1000000 < R.kept ∧ R.kept < 1000000) ∧ (0 ≤ R.ver ∧ R.ver < 9223372036854775807) ∧ R.ks.length < 900000 ∧ x.c.size ≤ 1000000 ∧ 0 ≤ R.kept) := ⟨⟨by omega, hk.2⟩, hv, hl, hxc, hk.1⟩
 have HR : Hid (RA w q mb R) := h
 have HEN : Hid (en = 0) := hen
 clear hen
 have HML : Hid (mail = 1) := hml
 clear hml
 have HTh : Hid (thr x = true) := hth
 clear hth
 clear hA hx hl hk hv hxc h hc
 rw [show env x = .agg (enc x) from rfl] at cO
 go_enter Tryd.func19, Tryd.ntmps19
 unfold enc gsv at cO
 go_upto_region 2 with (first
  | (go_at_call 27; refine cO.mono ?_; clear cO; rintro e w1 ⟨rfl, hb1⟩))
 have P0 : EnAt (w1.alloc (.cells (enc x) 47)) w1.heap.size x ∧ RA (w1.alloc (.cells (enc x) 47)) q mb R ∧ (w1.alloc (.cells (enc x) 47)).heap[w.heap.size]? = some (.cells (hec 0 false false) 40 (0, 0)) ∧ Keep (fun j => j = q ∨ j = mb) w (w1.alloc (.cells (enc x) 47)) ∧ w.heap.size < w1.heap.size := by
  have e1 : (w.alloc (.cells (hec 0 false false) 40)).heap.size = w.heap.size + 1 := by simp
  have s1 := hb1.size
  have k1 : Keep (fun j => j = q ∨ j = mb) w w1 := (Keep.ofBelow (below1 w _)).trans (Keep.ofBelow hb1)
  exact ⟨EnAt.made _ _, ((HR.out.below (below1 w _)).below hb1).below (below1 _ _), box_below (box_below (push_at _ _ rfl) hb1) (below1 _ _), k1.trans (Keep.ofBelow (below1 _ _)), by omega⟩
 unfold enc gsv at P0
 obtain ⟨b1, Hb1⟩ : ∃ b1, Hid (w1.heap.size = b1) := ⟨_, rfl⟩
 rw [Hb1.out] at P0 ⊢
 generalize w1.alloc _ = w2 at P0 ⊢
 clear hb1
 have PP : Hid _ := P0
 have c4 := P0.1.c4
 have c5 := P0.1.c5
 have c6 := P0.1.c6
 have c7 := P0.1.c7
 clear P0
 have cA2 := cA.out w2
 go_upto_region 3 with (first
  | (go_at_call 33; refine cA2.mono ?_; clear cA2; rintro e w3 ⟨rfl, hb3⟩))
 have HI : Hid (AInv w q mb (hec 0 false false) 40 R b1 x w3.heap.size t (w3.alloc (.cells (hfc t) 45))) := by
  obtain ⟨p1, p2, p3, p4, p5⟩ := PP.out
  have l1 := p1.lt
  have l2 := hb3.size
  exact ⟨(p2.below hb3).below (below1 _ _), (p1.carry hb3).carry (below1 _ _), push_at _ _ rfl, box_below (box_below p3 hb3) (below1 _ _), (p4.trans (Keep.ofBelow hb3)).trans (Keep.ofBelow (below1 _ _)), HR.out.lt, HR.out.map.lt, by have := Hb1.out; omega, by omega⟩
 unfold hfc at HI
 clear c4 c5 c6 c7 hb3 cA
 obtain ⟨g, Hg⟩ : ∃ g, Hid (w3.heap.size = g) := ⟨_, rfl⟩
 rw [Hg.out] at HI ⊢
 generalize w3.alloc _ = wc at HI ⊢
 have hml := HML.out
 subst hml
 have hen := HEN.out
 subst hen
 have hd1 := fun w => demR_ok 0 w
 go_upto_region 4 with (first
  | (go_at_call 24; refine (hd1 _).mono ?_; rintro e w3 ⟨rfl, hw3⟩; replace hw3 := hw3.symm; subst hw3))
 refine wp_region_lx (fun w' => AInv w q mb (hec 0 false false) 40 R b1 x g t w') [] 16 (by kernel_rfl) (by kernel_rfl) ?_
 have HS0 : AInv w q mb (hec 0 false false) 40 R b1 x g t wc.drew := HI.out.below (Below.refl _ _).drew
 generalize wc.drew = W at HS0 ⊢
 refine lx_r 0 (.int .i64 1) HS0 ?_; simp only [lxa, lxb, lxc]
 refine lx_r 1 (.bool true) HS0 ?_; simp only [lxa, lxb, lxc]
 refine lx_r 2 (.bool true) HS0 ?_; simp only [lxa, lxb, lxc]
 refine lx_r 3 (env x) HS0 ?_ (hv := fun w' hS => by exact exec_load_en (.tmp 9) rfl b1 rfl x hS.en); simp only [lxa, lxb, lxc]
 refine lx_one 4 (by kernel_rfl) (stepT_call 34 ?c4 rfl rfl rfl ?d4 ?_)
 case d4 => first | (go_simp; rfl) | go_simp
 refine (isThere_any x W).mono ?_
 rintro e w5 ⟨rfl, hb5⟩
 have HS1 := HS0.below hb5
 refine ⟨_, rfl, fun _ => HS1, ?_⟩
 rw [HTh.out]
 simp only [lxa, lxb, lxc]
 refine lx_r 5 (.bool false) HS1 ?_; simp only [lxa, lxb, lxc]
 refine lx_r 6 (.bool false) HS1 ?_; simp only [lxa, lxb, lxc]
 refine lx_r 7 (.bool false) HS1 ?_; simp only [lxa, lxb, lxc]
 refine lx_s 8 HS1 ?_; simp only [lxa, lxb, lxc]
 refine lx_s 9 HS1 ?_; simp only [lxa, lxb, lxc]
 refine lx_s 10 HS1 ?_; simp only [lxa, lxb, lxc]
 refine lx_s 11 HS1 ?_; simp only [lxa, lxb, lxc]
 refine lx_s 12 HS1 ?_; simp only [lxa, lxb, lxc]
 refine lx_s 13 HS1 ?_; simp only [lxa, lxb, lxc]
 refine lx_s 14 HS1 ?_; simp only [lxa, lxb, lxc]
 refine lx_r 15 (.bool false) HS1 ?_; simp only [lxa, lxb, lxc]
 refine lx_nil (by kernel_rfl) ?_
 have HI2 : Hid (AInv w q mb (hec 0 false false) 40 R b1 x g t w5) := HS1
 clear HS0 HS1
 have hT := turn_any w5 q mb R HI2.out.ra x t HB.out.2.2.2.1 HB.out.2.2.1 HB.out.1 HB.out.2.1
 go_wp2_with (first
  | (refine wp_load_en rfl (.tmp 9) rfl b1 rfl x HI2.out.en ?_)
  | (refine wp_load_half rfl (.tmp 10) rfl g rfl t HI2.out.hf ?_)
  | (go_at_call 30; refine hT.mono ?_; clear hT; rintro e w6 ⟨rfl, hr6, hk6⟩; have HI4 : Hid (AInv w q mb (hec 0 false false) 40 (turnR R x t) b1 x g t w6) := HI2.out.turned hr6 hk6)
  | (refine wpList_store_row rfl 40 (.tmp 8) (.tmp 51) rfl w.heap.size (hec tl false (chg x t)) rfl rfl 40 _ HI4.out.ac (by rw [infoHeard]; rfl) (by rfl) (hec_one _ _ _) ?_))
 obtain ⟨a1, a2, a3⟩ := HI4.out.answer (hec tl false (chg x t))
 have hld := run_loadVar_row _ w.heap.size 40 40 _ (0, 0) _ a2 Tryd.underlying40 rfl (by rw [infoHeard]; rfl)
 first | exact bodyPost_ret (res_row rfl _ _ _ _ rfl hld) rfl ⟨gv_ok rfl, a1, a3⟩ | exact bodyPost_end (res_row rfl _ _ _ _ rfl hld) rfl ⟨gv_ok rfl, a1, a3⟩
set_option maxHeartbeats 3200000 in
theorem hear_5 (w : World) (q mb : Nat) (R : Ro) (h : RA w q mb R) (c : ByteArray) (hc : c.size ≤ 1000000) (mail n : Int) (x : En) (hx : ofE R c = x) (hxc : x.c.size ≤ 1000000) (t : Hf) (tl : Int) (en : Nat) (hA : hearA x.h mail n = ((t, tl), en))
  (hl : R.ks.length < 900000) (hk : 0 ≤ R.kept ∧ R.kept < 1000000) (hv : 0 ≤ R.ver ∧ R.ver < 9223372036854775807) (hen : en = 0) (hml : mail ≠ 1) :
  Calls Tryd.prog 19 #[.pointer (some ⟨q, 0, none⟩), .string c, .int .i64 mail, .int .u64 n] w fun e w' => GaveV 0 (.agg (hec tl false (chg x t))) e ∧ RA w' q mb (turnR R x t) ∧ Keep (fun j => j = q ∨ j = mb) w w' := by
 have cA : Hid (∀ w, Calls Tryd.prog 33 #[.agg #[.int .i64 x.h.o, .int .u64 x.h.n, .int .i64 x.h.i, .int .u64 x.h.m], .int .i64 mail, .int .u64 n] w fun e w' => e = .returned (.tuple #[.agg #[.int .i64 t.o, .int .u64 t.n, .int .i64 t.i, .int .u64 t.m], .int .i64 tl, .int .i64 en]) ∧ Below w.heap.size w w') := by
  show ∀ w, _
  intro w
  have := Hear_any x.h mail n w
  rw [hA] at this
  exact this
 have cO := of_any (w.alloc (.cells (hec 0 false false) 40)) q mb R (h.below (below1 _ _)) c hc
 rw [hx] at cO
 have HB : Hid ((-1000000 < R.kept ∧ R.kept < 1000000) ∧ (0 ≤ R.ver ∧ R.ver < 9223372036854775807) ∧ R.ks.length < 900000 ∧ x.c.size ≤ 1000000 ∧ 0 ≤ R.kept) := ⟨⟨by omega, hk.2⟩, hv, hl, hxc, hk.1⟩
 have HR : Hid (RA w q mb R) := h
 have HEN : Hid (en = 0) := hen
 clear hen
 have zm : (mail == 1) = false := by rw [beq_eq_false_iff_ne]; exact hml
 have HML : Hid (mail ≠ 1) := hml
 clear hml
 clear hA hx hl hk hv hxc h hc
 rw [show env x = .agg (enc x) from rfl] at cO
 go_enter Tryd.func19, Tryd.ntmps19
 unfold enc gsv at cO
 go_upto_region 2 with (first
  | (go_at_call 27; refine cO.mono ?_; clear cO; rintro e w1 ⟨rfl, hb1⟩))
 have P0 : EnAt (w1.alloc (.cells (enc x) 47)) w1.heap.size x ∧ RA (w1.alloc (.cells (enc x) 47)) q mb R ∧ (w1.alloc (.cells (enc x) 47)).heap[w.heap.size]? = some (.cells (hec 0 false false) 40 (0, 0)) ∧ Keep (fun j => j = q ∨ j = mb) w (w1.alloc (.cells (enc x) 47)) ∧ w.heap.size < w1.heap.size := by
  have e1 : (w.alloc (.cells (hec 0 false false) 40)).heap.size = w.heap.size + 1 := by simp
  have s1 := hb1.size
  have k1 : Keep (fun j => j = q ∨ j = mb) w w1 := (Keep.ofBelow (below1 w _)).trans (Keep.ofBelow hb1)
  exact ⟨EnAt.made _ _, ((HR.out.below (below1 w _)).below hb1).below (below1 _ _), box_below (box_below (push_at _ _ rfl) hb1) (below1 _ _), k1.trans (Keep.ofBelow (below1 _ _)), by omega⟩
 unfold enc gsv at P0
 obtain ⟨b1, Hb1⟩ : ∃ b1, Hid (w1.heap.size = b1) := ⟨_, rfl⟩
 rw [Hb1.out] at P0 ⊢
 generalize w1.alloc _ = w2 at P0 ⊢
 clear hb1
 have PP : Hid _ := P0
 have c4 := P0.1.c4
 have c5 := P0.1.c5
 have c6 := P0.1.c6
 have c7 := P0.1.c7
 clear P0
 have cA2 := cA.out w2
 go_upto_region 3 with (first
  | (go_at_call 33; refine cA2.mono ?_; clear cA2; rintro e w3 ⟨rfl, hb3⟩))
 have HI : Hid (AInv w q mb (hec 0 false false) 40 R b1 x w3.heap.size t (w3.alloc (.cells (hfc t) 45))) := by
  obtain ⟨p1, p2, p3, p4, p5⟩ := PP.out
  have l1 := p1.lt
  have l2 := hb3.size
  exact ⟨(p2.below hb3).below (below1 _ _), (p1.carry hb3).carry (below1 _ _), push_at _ _ rfl, box_below (box_below p3 hb3) (below1 _ _), (p4.trans (Keep.ofBelow hb3)).trans (Keep.ofBelow (below1 _ _)), HR.out.lt, HR.out.map.lt, by have := Hb1.out; omega, by omega⟩
 unfold hfc at HI
 clear c4 c5 c6 c7 hb3 cA
 obtain ⟨g, Hg⟩ : ∃ g, Hid (w3.heap.size = g) := ⟨_, rfl⟩
 rw [Hg.out] at HI ⊢
 generalize w3.alloc _ = wc at HI ⊢
 have hen := HEN.out
 subst hen
 have hd1 := fun w => demR_ok 0 w
 go_upto_region 4 with (first
  | (go_at_call 24; refine (hd1 _).mono ?_; rintro e w3 ⟨rfl, hw3⟩; replace hw3 := hw3.symm; subst hw3))
 refine wp_region_lx (fun w' => AInv w q mb (hec 0 false false) 40 R b1 x g t w') [] 16 (by kernel_rfl) (by kernel_rfl) ?_
 have HS0 : AInv w q mb (hec 0 false false) 40 R b1 x g t wc.drew := HI.out.below (Below.refl _ _).drew
 generalize wc.drew = W at HS0 ⊢
 refine lx_r 0 (.int .i64 mail) HS0 ?_; simp only [lxa, lxb, lxc]
 refine lx_r 1 (.bool false) HS0 ?_ (hv := fun w' hS => by have p := zm; first | (go_simp; rfl) | go_simp); simp only [lxa, lxb, lxc]
 refine lx_r 2 (.bool false) HS0 ?_; simp only [lxa, lxb, lxc]
 refine lx_s 3 HS0 ?_; simp only [lxa, lxb, lxc]
 refine lx_s 4 HS0 ?_; simp only [lxa, lxb, lxc]
 refine lx_s 5 HS0 ?_; simp only [lxa, lxb, lxc]
 refine lx_r 6 (.bool false) HS0 ?_; simp only [lxa, lxb, lxc]
 refine lx_r 7 (.bool false) HS0 ?_; simp only [lxa, lxb, lxc]
 refine lx_s 8 HS0 ?_; simp only [lxa, lxb, lxc]
 refine lx_s 9 HS0 ?_; simp only [lxa, lxb, lxc]
 refine lx_s 10 HS0 ?_; simp only [lxa, lxb, lxc]
 refine lx_s 11 HS0 ?_; simp only [lxa, lxb, lxc]
 refine lx_s 12 HS0 ?_; simp only [lxa, lxb, lxc]
 refine lx_s 13 HS0 ?_; simp only [lxa, lxb, lxc]
 refine lx_s 14 HS0 ?_; simp only [lxa, lxb, lxc]
 refine lx_r 15 (.bool false) HS0 ?_; simp only [lxa, lxb, lxc]
 refine lx_nil (by kernel_rfl) ?_
 have HI2 : Hid (AInv w q mb (hec 0 false false) 40 R b1 x g t W) := HS0
 clear HS0
 have hT := turn_any W q mb R HI2.out.ra x t HB.out.2.2.2.1 HB.out.2.2.1 HB.out.1 HB.out.2.1
 go_wp2_with (first
  | (refine wp_load_en rfl (.tmp 9) rfl b1 rfl x HI2.out.en ?_)
  | (refine wp_load_half rfl (.tmp 10) rfl g rfl t HI2.out.hf ?_)
  | (go_at_call 30; refine hT.mono ?_; clear hT; rintro e w6 ⟨rfl, hr6, hk6⟩; have HI4 : Hid (AInv w q mb (hec 0 false false) 40 (turnR R x t) b1 x g t w6) := HI2.out.turned hr6 hk6)
  | (refine wpList_store_row rfl 40 (.tmp 8) (.tmp 51) rfl w.heap.size (hec tl false (chg x t)) rfl rfl 40 _ HI4.out.ac (by rw [infoHeard]; rfl) (by rfl) (hec_one _ _ _) ?_))
 obtain ⟨a1, a2, a3⟩ := HI4.out.answer (hec tl false (chg x t))
 have hld := run_loadVar_row _ w.heap.size 40 40 _ (0, 0) _ a2 Tryd.underlying40 rfl (by rw [infoHeard]; rfl)
 first | exact bodyPost_ret (res_row rfl _ _ _ _ rfl hld) rfl ⟨gv_ok rfl, a1, a3⟩ | exact bodyPost_end (res_row rfl _ _ _ _ rfl hld) rfl ⟨gv_ok rfl, a1, a3⟩
end Go.Proofs.YtppdopcghnfapaaDoor

set_option maxRecDepth 100000
namespace Go.Proofs.YtppdopcghnfapaaDoor
open Go.RowKit Go.Joins
def actP (R : Ro) (c : ByteArray) (kind : Int) : (Int × Int × Bool) × Nat × Ro :=
 if (actA (ofE R c).h kind (R.nx + 1)).2 ≠ 0 then ((0, 0, false), (actA (ofE R c).h kind (R.nx + 1)).2, R)
 else if (actA (ofE R c).h kind (R.nx + 1)).1.2.1 = 0 then ((0, 0, false), 0, R)
 else if kind = 11 then
  if roomB R (ofE R c) = true then (((actA (ofE R c).h kind (R.nx + 1)).1.2.1, (actA (ofE R c).h kind (R.nx + 1)).1.2.2, chg { ofE R c with k := true } (actA (ofE R c).h kind (R.nx + 1)).1.1), 0, turnR { R with nx := R.nx + 1 } { ofE R c with k := true } (actA (ofE R c).h kind (R.nx + 1)).1.1)
  else ((0, 0, false), 8, R)
 else if kind = 12 then
  if roomB R (ofE R c) = true then (((actA (ofE R c).h kind (R.nx + 1)).1.2.1, (actA (ofE R c).h kind (R.nx + 1)).1.2.2, chg { ofE R c with k := true } (actA (ofE R c).h kind (R.nx + 1)).1.1), 0, turnR R { ofE R c with k := true } (actA (ofE R c).h kind (R.nx + 1)).1.1)
  else ((0, 0, false), 8, R)
 else (((actA (ofE R c).h kind (R.nx + 1)).1.2.1, (actA (ofE R c).h kind (R.nx + 1)).1.2.2, chg (ofE R c) (actA (ofE R c).h kind (R.nx + 1)).1.1), 0, turnR R (ofE R c) (actA (ofE R c).h kind (R.nx + 1)).1.1)
def hearP (R : Ro) (c : ByteArray) (mail n : Int) : (Int × Bool × Bool) × Nat × Ro :=
 if (hearA (ofE R c).h mail n).2 ≠ 0 then ((0, false, false), (hearA (ofE R c).h mail n).2, R)
 else if mail = 1 ∧ thr (ofE R c) = false ∧ decide ((R.ks.length : Int) - R.kept ≥ R.ak) = true then ((0, true, false), 0, R)
 else (((hearA (ofE R c).h mail n).1.2, false, chg (ofE R c) (hearA (ofE R c).h mail n).1.1), 0, turnR R (ofE R c) (hearA (ofE R c).h mail n).1.1)
structure RG (R : Ro) : Prop where
 nx : 0 ≤ R.nx ∧ R.nx < 9223372036854775807
 ks : R.ks.length < 900000
 kept : 0 ≤ R.kept ∧ R.kept < 1000000
 ver : 0 ≤ R.ver ∧ R.ver < 9223372036854775807
 key : ∀ s x, R.m s = some x → x.c = s
theorem RG.of {R : Ro} (h : RG R) (c : ByteArray) : (ofE R c).c = c := by
 unfold ofE
 cases hm : R.m c with
 | none => rfl
 | some x => exact h.key c x hm
theorem act_all (w : World) (q mb : Nat) (R : Ro) (h : RA w q mb R) (hG : RG R) (c : ByteArray) (hc : c.size ≤ 1000000) (kind : Int) :
  Calls Tryd.prog 15 #[.pointer (some ⟨q, 0, none⟩), .string c, .int .i64 kind] w fun e w' => GaveV (actP R c kind).2.1 (.agg (acc (actP R c kind).1.1 (actP R c kind).1.2.1 (actP R c kind).1.2.2)) e ∧ RA w' q mb (actP R c kind).2.2 ∧ Keep (fun j => j = q ∨ j = mb) w w' := by
 have hxc : (ofE R c).c.size ≤ 1000000 := by rw [hG.of]; exact hc
 have hk : -1000000 < R.kept ∧ R.kept < 1000000 := ⟨by have := hG.kept; omega, hG.kept.2⟩
 unfold actP
 obtain ⟨⟨⟨t, mm, nn⟩, en⟩, hA⟩ : ∃ r, actA (ofE R c).h kind (R.nx + 1) = r := ⟨_, rfl⟩
 rw [hA]
 by_cases h1 : en = 0
 ·rw [if_neg (fun hh => hh h1)]
  by_cases h2 : mm = 0
  ·rw [if_pos h2]
   exact act_2 w q mb R h c hc kind (ofE R c) rfl hxc t mm nn en hA hG.nx hG.ks hk hG.ver h1 h2
  ·rw [if_neg h2]
   by_cases h3 : kind = 11
   ·rw [if_pos h3]
    cases hr : roomB R (ofE R c) with
    | true =>
     rw [if_pos rfl]
     exact act_3 w q mb R h c hc kind (ofE R c) rfl hxc t mm nn en hA hG.nx hG.ks hk hG.ver h1 h2 h3 hr
    | false =>
     rw [if_neg (by decide)]
     refine (act_4 w q mb R h c hc kind (ofE R c) rfl hxc t mm nn en hA hG.nx hG.ks hk hG.ver h1 h2 h3 hr).mono ?_
     rintro e w' ⟨h1, h2⟩
     exact ⟨gv_no (show (8 : Nat) ≠ 0 by decide) h1, h2⟩
   ·rw [if_neg h3]
    by_cases h4 : kind = 12
    ·rw [if_pos h4]
     cases hr : roomB R (ofE R c) with
     | true =>
      rw [if_pos rfl]
      exact act_5 w q mb R h c hc kind (ofE R c) rfl hxc t mm nn en hA hG.nx hG.ks hk hG.ver h1 h2 h4 hr
     | false =>
      rw [if_neg (by decide)]
      refine (act_6 w q mb R h c hc kind (ofE R c) rfl hxc t mm nn en hA hG.nx hG.ks hk hG.ver h1 h2 h4 hr).mono ?_
      rintro e w' ⟨h1, h2⟩
      exact ⟨gv_no (show (8 : Nat) ≠ 0 by decide) h1, h2⟩
    ·rw [if_neg h4]
     exact act_7 w q mb R h c hc kind (ofE R c) rfl hxc t mm nn en hA hG.nx hG.ks hk hG.ver h1 h2 h3 h4
 ·rw [if_pos h1]
  refine (act_1 w q mb R h c hc kind (ofE R c) rfl hxc t mm nn en hA hG.nx hG.ks hk hG.ver h1).mono ?_
  rintro e w' ⟨h2, h3⟩
  exact ⟨gv_no h1 h2, h3⟩
theorem hear_all (w : World) (q mb : Nat) (R : Ro) (h : RA w q mb R) (hG : RG R) (c : ByteArray) (hc : c.size ≤ 1000000) (mail n : Int) :
  Calls Tryd.prog 19 #[.pointer (some ⟨q, 0, none⟩), .string c, .int .i64 mail, .int .u64 n] w fun e w' => GaveV (hearP R c mail n).2.1 (.agg (hec (hearP R c mail n).1.1 (hearP R c mail n).1.2.1 (hearP R c mail n).1.2.2)) e ∧ RA w' q mb (hearP R c mail n).2.2 ∧ Keep (fun j => j = q ∨ j = mb) w w' := by
 have hxc : (ofE R c).c.size ≤ 1000000 := by rw [hG.of]; exact hc
 unfold hearP
 obtain ⟨⟨⟨t, tl⟩, en⟩, hA⟩ : ∃ r, hearA (ofE R c).h mail n = r := ⟨_, rfl⟩
 rw [hA]
 by_cases h1 : en = 0
 ·rw [if_neg (fun hh => hh h1)]
  by_cases h2 : mail = 1
  ·cases ht : thr (ofE R c) with
   | true =>
    rw [if_neg (fun hh => by have := hh.2.1; cases this)]
    exact hear_4 w q mb R h c hc mail n (ofE R c) rfl hxc t tl en hA hG.ks hG.kept hG.ver h1 h2 ht
   | false =>
    cases hr : decide ((R.ks.length : Int) - R.kept ≥ R.ak) with
    | true =>
     rw [if_pos ⟨h2, rfl, rfl⟩]
     exact hear_2 w q mb R h c hc mail n (ofE R c) rfl hxc t tl en hA hG.ks hG.kept hG.ver h1 h2 ht hr
    | false =>
     rw [if_neg (fun hh => by have := hh.2.2; cases this)]
     exact hear_3 w q mb R h c hc mail n (ofE R c) rfl hxc t tl en hA hG.ks hG.kept hG.ver h1 h2 ht hr
  ·rw [if_neg (fun hh => h2 hh.1)]
   exact hear_5 w q mb R h c hc mail n (ofE R c) rfl hxc t tl en hA hG.ks hG.kept hG.ver h1 h2
 ·rw [if_pos h1]
  refine (hear_1 w q mb R h c hc mail n (ofE R c) rfl hxc t tl en hA hG.ks hG.kept hG.ver h1).mono ?_
  rintro e w' ⟨h2, h3⟩
  exact ⟨gv_no h1 h2, h3⟩
def prepB (s : ByteArray) : ByteArray := ⟨(Nm.localN s.data.toList).1.toArray⟩
def prepE (s : ByteArray) : Nat := (Nm.localN s.data.toList).2
def actS (R : Ro) (s : ByteArray) (kind : Int) : (Int × Int × Bool) × Nat × Ro := if prepE s = 0 then actP R (prepB s) kind else ((0, 0, false), prepE s, R)
def hearS (R : Ro) (s : ByteArray) (mail n : Int) : (Int × Bool × Bool) × Nat × Ro := if prepE s = 0 then hearP R (prepB s) mail n else ((0, false, false), prepE s, R)
theorem exec_store_row {o : Oper} {ρ : Operand → Value} {w : World} (ty : TypeId) (x y : Operand) (ho : o.op = .store ty x y) (g : Nat) (cs cs0 : Array Value) (hx : ρ x = .pointer (some ⟨g, 0, none⟩)) (hy : ρ y = .agg cs) (hg : w.heap[g]? = some (.cells cs0 ty (0, 0)))
  (hi : (Tryd.prog.info? ty).map (·.size) = some cs.size) (hs : cs0.size = cs.size) (h1 : cs.all (·.oneCell') = true) : (execOp ρ o).run Tryd.prog w = .ok .skip (w.setRow g cs) := by
 unfold execOp
 simp only [ho, hx, hy, Instr.storeAt, Instr.sureAddr, Sem.run_bind, Sem.run_pure, Result.andThen_ok, run_storeVar_row w g ty ty _ cs hg hi hs h1]
end Go.Proofs.YtppdopcghnfapaaDoor

set_option maxRecDepth 100000
namespace Go.Proofs.YtppdopcghnfapaaDoor
open Go.RowKit Go.Joins
theorem tabs_keep {a b : Nat} {S : Nat → Prop} {w w' : World} (h : Lib.Utf8Tabs a b w) (k : Keep S w w') (ha : ¬ S a) (hb : ¬ S b) : Lib.Utf8Tabs a b w' :=
 ⟨fun c hc => k.cell (h.1 c hc) ha, fun i hi => ⟨k.cell (h.2 i hi).1 hb, k.cell (h.2 i hi).2 hb⟩⟩
theorem tabs_bel {a b : Nat} {w w' : World} (h : Lib.Utf8Tabs a b w) (k : Below w.heap.size w w') : Lib.Utf8Tabs a b w' := tabs_keep h (Keep.ofBelow (S := fun _ => False) k) (fun h => h) (fun h => h)
set_option maxHeartbeats 1600000 in
theorem actC_R (b : Nat) (w : World) (q mb : Nat) (R : Ro) (h : RA w q mb R) (hG : RG R) (s : ByteArray) (hs : s.size ≤ 1000000) (kind : Int) (hq : q < b) (hm : mb < b) (hT : Lib.Utf8Tabs 0 1 w) (hp : (prepB s).size ≤ 1000000) (x0 : w.heap[b]? = some (.cells #[.pointer (some ⟨q, 0, none⟩)] 23 (0, 0))) (x1 : w.heap[b + 1]? = some (.cells #[.string s] 9 (0, 0))) (x2 : w.heap[b + 2]? = some (.cells #[.int .i64 kind] 3 (0, 0))) :
  Calls Tryd.prog 14 #[.pointer (some ⟨b, 0, none⟩), .pointer (some ⟨b + 1, 0, none⟩), .pointer (some ⟨b + 2, 0, none⟩)] w fun e w' => GaveV (actS R s kind).2.1 (.agg (acc (actS R s kind).1.1 (actS R s kind).1.2.1 (actS R s kind).1.2.2)) e ∧ RA w' q mb (actS R s kind).2.2 ∧ Keep (fun j => j = q ∨ j = mb) w w' := by
 have hbs : b + 2 < w.heap.size := (Array.getElem?_eq_some_iff.1 x2).1
 have cL := rlocal_any s w.drew (by omega) (tabs_bel hT (Below.refl _ _).drew)
 have cl2 := fun w1 (hb : Below w.heap.size w w1) => cL
 unfold actS
 generalize hW : (w.alloc (.cells (acc 0 0 false) 56)).drew = W
 have hbW : Below w.heap.size w W := by rw [← hW]; exact (below1 _ _).drew
 have hz : W.heap[w.heap.size]? = some (.cells (acc 0 0 false) 56 (0, 0)) := by rw [← hW]; exact push_at _ _ rfl
 have HW : Hid ((w.alloc (.cells (acc 0 0 false) 56)).drew = W) := hW
 have HS0 : W.heap[b]? = some (.cells #[.pointer (some ⟨q, 0, none⟩)] 23 (0, 0)) ∧ W.heap[b + 1]? = some (.cells #[.string s] 9 (0, 0)) ∧ W.heap[b + 2]? = some (.cells #[.int .i64 kind] 3 (0, 0)) := ⟨box_below x0 hbW, box_below x1 hbW, box_below x2 hbW⟩
 have cLW := rlocal_any s W (by omega) (tabs_bel hT hbW)
 have hRW := h.below hbW
 clear cL cl2 hW x0 x1 x2 hT
 have HR : Hid (RA W q mb R ∧ Below w.heap.size w W ∧ W.heap[w.heap.size]? = some (.cells (acc 0 0 false) 56 (0, 0)) ∧ b + 2 < w.heap.size) := ⟨hRW, hbW, hz, hbs⟩
 clear h hRW hbW hz hbs
 unfold prepE prepB at *
 generalize Nm.localN s.data.toList = p at *
 obtain ⟨l, n⟩ := p
 by_cases h0 : n = 0
 ·subst h0
  rw [if_pos rfl]
  have cl : Calls Tryd.prog 16 #[.string s] W fun e w' => e = .returned (.string ⟨l.toArray⟩) ∧ Below W.heap.size W w' := cLW.mono (fun e w' hh => ⟨hh.1.elim (fun k => k.2) (fun k => absurd rfl k.1), hh.2⟩)
  clear cLW
  dsimp only at hp ⊢
  generalize (⟨l.toArray⟩ : ByteArray) = c at *
  have cA : Hid (∀ w1, RA w1 q mb R → Calls Tryd.prog 15 #[.pointer (some ⟨q, 0, none⟩), .string c, .int .i64 kind] w1 fun e w' => GaveV (actP R c kind).2.1 (.agg (acc (actP R c kind).1.1 (actP R c kind).1.2.1 (actP R c kind).1.2.2)) e ∧ RA w' q mb (actP R c kind).2.2 ∧ Keep (fun j => j = q ∨ j = mb) w1 w') := fun w1 hr => act_all w1 q mb R hr hG c hp kind
  generalize actP R c kind = r at cA ⊢
  obtain ⟨v, en, R'⟩ := r
  dsimp only at cA ⊢
  go_enter Tryd.func14, Tryd.ntmps14
  go_upto_region 1 with fail
  refine wp_region_lx (fun w' => w'.heap[b]? = some (.cells #[.pointer (some ⟨q, 0, none⟩)] 23 (0, 0)) ∧ w'.heap[b + 1]? = some (.cells #[.string s] 9 (0, 0)) ∧ w'.heap[b + 2]? = some (.cells #[.int .i64 kind] 3 (0, 0))) [] 6 (by kernel_rfl) (by kernel_rfl) ?_
  rw [show (w.alloc (.cells #[.int .i64 0, .int .u64 0, .bool false] 56)).drew = W from HW.out]
  refine lx_r 0 (.pointer (some ⟨q, 0, none⟩)) HS0 ?_ (hv := fun w' hS => by have p := cell_one hS.1; first | (go_simp; rfl) | go_simp); simp only [lxa, lxb, lxc]
  refine lx_r 1 (.string s) HS0 ?_ (hv := fun w' hS => by have p := cell_one hS.2.1; first | (go_simp; rfl) | go_simp); simp only [lxa, lxb, lxc]
  refine lx_r 3 (.int .i64 kind) HS0 ?_ (hv := fun w' hS => by have p := cell_one hS.2.2; first | (go_simp; rfl) | go_simp); simp only [lxa, lxb, lxc]
  refine lx_one 2 (by kernel_rfl) (stepT_call 16 ?c2 rfl rfl rfl ?d2 ?_)
  case d2 => first | (go_simp; rfl) | go_simp
  refine cl.mono ?_
  rintro e w1 ⟨rfl, hb1⟩
  have HS1 : w1.heap[b]? = some (.cells #[.pointer (some ⟨q, 0, none⟩)] 23 (0, 0)) ∧ w1.heap[b + 1]? = some (.cells #[.string s] 9 (0, 0)) ∧ w1.heap[b + 2]? = some (.cells #[.int .i64 kind] 3 (0, 0)) := ⟨box_below HS0.1 hb1, box_below HS0.2.1 hb1, box_below HS0.2.2 hb1⟩
  refine ⟨_, rfl, fun _ => HS1, ?_⟩
  simp only [lxa, lxb, lxc]
  have hR1 := HR.out.1.below hb1
  have hz1 := box_below HR.out.2.2.1 hb1
  have k1 : Keep (fun j => j = q ∨ j = mb) w w1 := (Keep.ofBelow HR.out.2.1).trans (Keep.ofBelow hb1)
  have hbs := HR.out.2.2.2
  by_cases hen : en = 0
  ·subst hen
   refine lx_one 4 (by kernel_rfl) (stepT_call 15 ?c4 rfl rfl rfl ?d4 ?_)
   case d4 => first | (go_simp; rfl) | go_simp
   refine (cA.out w1 hR1).mono ?_
   rintro e w2 ⟨hg, hr2, k2⟩
   have he := hg.elim (fun k => k.2) (fun k => absurd rfl k.1)
   subst he
   have HS2 : w2.heap[b]? = some (.cells #[.pointer (some ⟨q, 0, none⟩)] 23 (0, 0)) ∧ w2.heap[b + 1]? = some (.cells #[.string s] 9 (0, 0)) ∧ w2.heap[b + 2]? = some (.cells #[.int .i64 kind] 3 (0, 0)) := ⟨box_keep HS1.1 k2 (by omega), box_keep HS1.2.1 k2 (by omega), box_keep HS1.2.2 k2 (by omega)⟩
   refine ⟨_, rfl, fun _ => HS2, ?_⟩
   simp only [lxa, lxb, lxc]
   have hz2 := box_keep hz1 k2 (by omega)
   have k3 := rowK w2 w.heap.size (acc v.1 v.2.1 v.2.2)
   have HS3 : (w2.setRow w.heap.size (acc v.1 v.2.1 v.2.2)).heap[b]? = some (.cells #[.pointer (some ⟨q, 0, none⟩)] 23 (0, 0)) ∧ (w2.setRow w.heap.size (acc v.1 v.2.1 v.2.2)).heap[b + 1]? = some (.cells #[.string s] 9 (0, 0)) ∧ (w2.setRow w.heap.size (acc v.1 v.2.1 v.2.2)).heap[b + 2]? = some (.cells #[.int .i64 kind] 3 (0, 0)) := ⟨box_keep HS2.1 k3 (by omega), box_keep HS2.2.1 k3 (by omega), box_keep HS2.2.2 k3 (by omega)⟩
   refine lx_one 5 (by kernel_rfl) (stepT_store (w' := w2.setRow w.heap.size (acc v.1 v.2.1 v.2.2)) rfl rfl rfl ?d5 (fun _ => HS3) ?_)
   case d5 => exact exec_store_row 56 (.tmp 3) (.tmp 8) rfl w.heap.size (acc v.1 v.2.1 v.2.2) _ rfl rfl hz2 (by rw [infoActed]; rfl) (by rfl) (acc_one _ _ _)
   refine lx_nil (by kernel_rfl) ?_
   have a1 : RA (w2.setRow w.heap.size (acc v.1 v.2.1 v.2.2)) q mb R' := hr2.keep k3 (by omega) (by omega)
   have a2 := setRow_heap w2 w.heap.size _ (acc v.1 v.2.1 v.2.2) 56 (0, 0) hz2
   have a3 : Keep (fun j => j = q ∨ j = mb) w (w2.setRow w.heap.size (acc v.1 v.2.1 v.2.2)) := (k1.trans k2).andThen k3 (fun i h1 h2 => by omega)
   have hld := run_loadVar_row _ w.heap.size 56 56 _ (0, 0) _ a2 Tryd.underlying56 rfl (by rw [infoActed]; rfl)
   go_wp2
   first | exact bodyPost_ret (res_row rfl _ _ _ _ rfl hld) rfl ⟨gv_ok rfl, a1, a3⟩ | exact bodyPost_end (res_row rfl _ _ _ _ rfl hld) rfl ⟨gv_ok rfl, a1, a3⟩
  ·refine lx_one 4 (by kernel_rfl) (stepT_callP 15 ?c4 rfl rfl rfl ?d4 ?_)
   case d4 => first | (go_simp; rfl) | go_simp
   refine (cA.out w1 hR1).mono ?_
   rintro e w2 ⟨hg, hr2, k2⟩
   have he := hg.elim (fun k => absurd k.1 hen) (fun k => k.2)
   subst he
   exact Or.inr ⟨_, rfl, rfl, gv_no hen rfl, hr2, k1.trans k2⟩
 ·rw [if_neg h0]
  have cl : Calls Tryd.prog 16 #[.string s] W fun e w' => e = .panicked (gaveR n) ∧ Below W.heap.size W w' := cLW.mono (fun e w' hh => ⟨hh.1.elim (fun k => absurd k.1 h0) (fun k => k.2), hh.2⟩)
  clear cLW
  go_enter Tryd.func14, Tryd.ntmps14
  go_upto_region 1 with fail
  refine wp_region_lx (fun w' => w'.heap[b]? = some (.cells #[.pointer (some ⟨q, 0, none⟩)] 23 (0, 0)) ∧ w'.heap[b + 1]? = some (.cells #[.string s] 9 (0, 0)) ∧ w'.heap[b + 2]? = some (.cells #[.int .i64 kind] 3 (0, 0))) [] 6 (by kernel_rfl) (by kernel_rfl) ?_
  rw [show (w.alloc (.cells #[.int .i64 0, .int .u64 0, .bool false] 56)).drew = W from HW.out]
  refine lx_r 0 (.pointer (some ⟨q, 0, none⟩)) HS0 ?_ (hv := fun w' hS => by have p := cell_one hS.1; first | (go_simp; rfl) | go_simp); simp only [lxa, lxb, lxc]
  refine lx_r 1 (.string s) HS0 ?_ (hv := fun w' hS => by have p := cell_one hS.2.1; first | (go_simp; rfl) | go_simp); simp only [lxa, lxb, lxc]
  refine lx_r 3 (.int .i64 kind) HS0 ?_ (hv := fun w' hS => by have p := cell_one hS.2.2; first | (go_simp; rfl) | go_simp); simp only [lxa, lxb, lxc]
  refine lx_one 2 (by kernel_rfl) (stepT_callP 16 ?e2 rfl rfl rfl ?f2 ?_)
  case f2 => first | (go_simp; rfl) | go_simp
  refine cl.mono ?_
  rintro e w1 ⟨rfl, hb1⟩
  exact Or.inr ⟨_, rfl, rfl, gv_no h0 rfl, HR.out.1.below hb1, (Keep.ofBelow HR.out.2.1).trans (Keep.ofBelow hb1)⟩
set_option maxHeartbeats 1600000 in
theorem hearC_R (b : Nat) (w : World) (q mb : Nat) (R : Ro) (h : RA w q mb R) (hG : RG R) (s : ByteArray) (hs : s.size ≤ 1000000) (mail n2 : Int) (hq : q < b) (hm : mb < b) (hT : Lib.Utf8Tabs 0 1 w) (hp : (prepB s).size ≤ 1000000) (x0 : w.heap[b]? = some (.cells #[.pointer (some ⟨q, 0, none⟩)] 23 (0, 0))) (x1 : w.heap[b + 1]? = some (.cells #[.string s] 9 (0, 0))) (x2 : w.heap[b + 2]? = some (.cells #[.int .i64 mail] 3 (0, 0))) (x3 : w.heap[b + 3]? = some (.cells #[.int .u64 n2] 34 (0, 0))) :
  Calls Tryd.prog 18 #[.pointer (some ⟨b, 0, none⟩), .pointer (some ⟨b + 1, 0, none⟩), .pointer (some ⟨b + 2, 0, none⟩), .pointer (some ⟨b + 3, 0, none⟩)] w fun e w' => GaveV (hearS R s mail n2).2.1 (.agg (hec (hearS R s mail n2).1.1 (hearS R s mail n2).1.2.1 (hearS R s mail n2).1.2.2)) e ∧ RA w' q mb (hearS R s mail n2).2.2 ∧ Keep (fun j => j = q ∨ j = mb) w w' := by
 have hbs : b + 3 < w.heap.size := (Array.getElem?_eq_some_iff.1 x3).1
 have cL := rlocal_any s w.drew (by omega) (tabs_bel hT (Below.refl _ _).drew)
 have cl2 := fun w1 (hb : Below w.heap.size w w1) => cL
 unfold hearS
 generalize hW : (w.alloc (.cells (hec 0 false false) 40)).drew = W
 have hbW : Below w.heap.size w W := by rw [← hW]; exact (below1 _ _).drew
 have hz : W.heap[w.heap.size]? = some (.cells (hec 0 false false) 40 (0, 0)) := by rw [← hW]; exact push_at _ _ rfl
 have HW : Hid ((w.alloc (.cells (hec 0 false false) 40)).drew = W) := hW
 have HS0 : W.heap[b]? = some (.cells #[.pointer (some ⟨q, 0, none⟩)] 23 (0, 0)) ∧ W.heap[b + 1]? = some (.cells #[.string s] 9 (0, 0)) ∧ W.heap[b + 2]? = some (.cells #[.int .i64 mail] 3 (0, 0)) ∧ W.heap[b + 3]? = some (.cells #[.int .u64 n2] 34 (0, 0)) := ⟨box_below x0 hbW, box_below x1 hbW, box_below x2 hbW, box_below x3 hbW⟩
 have cLW := rlocal_any s W (by omega) (tabs_bel hT hbW)
 have hRW := h.below hbW
 clear cL cl2 hW x0 x1 x2 x3 hT
 have HR : Hid (RA W q mb R ∧ Below w.heap.size w W ∧ W.heap[w.heap.size]? = some (.cells (hec 0 false false) 40 (0, 0)) ∧ b + 3 < w.heap.size) := ⟨hRW, hbW, hz, hbs⟩
 clear h hRW hbW hz hbs
 unfold prepE prepB at *
 generalize Nm.localN s.data.toList = p at *
 obtain ⟨l, n⟩ := p
 by_cases h0 : n = 0
 ·subst h0
  rw [if_pos rfl]
  have cl : Calls Tryd.prog 16 #[.string s] W fun e w' => e = .returned (.string ⟨l.toArray⟩) ∧ Below W.heap.size W w' := cLW.mono (fun e w' hh => ⟨hh.1.elim (fun k => k.2) (fun k => absurd rfl k.1), hh.2⟩)
  clear cLW
  dsimp only at hp ⊢
  generalize (⟨l.toArray⟩ : ByteArray) = c at *
  have cA : Hid (∀ w1, RA w1 q mb R → Calls Tryd.prog 19 #[.pointer (some ⟨q, 0, none⟩), .string c, .int .i64 mail, .int .u64 n2] w1 fun e w' => GaveV (hearP R c mail n2).2.1 (.agg (hec (hearP R c mail n2).1.1 (hearP R c mail n2).1.2.1 (hearP R c mail n2).1.2.2)) e ∧ RA w' q mb (hearP R c mail n2).2.2 ∧ Keep (fun j => j = q ∨ j = mb) w1 w') := fun w1 hr => hear_all w1 q mb R hr hG c hp mail n2
  generalize hearP R c mail n2 = r at cA ⊢
  obtain ⟨v, en, R'⟩ := r
  dsimp only at cA ⊢
  go_enter Tryd.func18, Tryd.ntmps18
  go_upto_region 1 with fail
  refine wp_region_lx (fun w' => w'.heap[b]? = some (.cells #[.pointer (some ⟨q, 0, none⟩)] 23 (0, 0)) ∧ w'.heap[b + 1]? = some (.cells #[.string s] 9 (0, 0)) ∧ w'.heap[b + 2]? = some (.cells #[.int .i64 mail] 3 (0, 0)) ∧ w'.heap[b + 3]? = some (.cells #[.int .u64 n2] 34 (0, 0))) [] 7 (by kernel_rfl) (by kernel_rfl) ?_
  rw [show (w.alloc (.cells #[.int .i64 0, .bool false, .bool false] 40)).drew = W from HW.out]
  refine lx_r 0 (.pointer (some ⟨q, 0, none⟩)) HS0 ?_ (hv := fun w' hS => by have p := cell_one hS.1; first | (go_simp; rfl) | go_simp); simp only [lxa, lxb, lxc]
  refine lx_r 1 (.string s) HS0 ?_ (hv := fun w' hS => by have p := cell_one hS.2.1; first | (go_simp; rfl) | go_simp); simp only [lxa, lxb, lxc]
  refine lx_r 3 (.int .i64 mail) HS0 ?_ (hv := fun w' hS => by have p := cell_one hS.2.2.1; first | (go_simp; rfl) | go_simp); simp only [lxa, lxb, lxc]
  refine lx_r 4 (.int .u64 n2) HS0 ?_ (hv := fun w' hS => by have p := cell_one hS.2.2.2; first | (go_simp; rfl) | go_simp); simp only [lxa, lxb, lxc]
  refine lx_one 2 (by kernel_rfl) (stepT_call 16 ?c2 rfl rfl rfl ?d2 ?_)
  case d2 => first | (go_simp; rfl) | go_simp
  refine cl.mono ?_
  rintro e w1 ⟨rfl, hb1⟩
  have HS1 : w1.heap[b]? = some (.cells #[.pointer (some ⟨q, 0, none⟩)] 23 (0, 0)) ∧ w1.heap[b + 1]? = some (.cells #[.string s] 9 (0, 0)) ∧ w1.heap[b + 2]? = some (.cells #[.int .i64 mail] 3 (0, 0)) ∧ w1.heap[b + 3]? = some (.cells #[.int .u64 n2] 34 (0, 0)) := ⟨box_below HS0.1 hb1, box_below HS0.2.1 hb1, box_below HS0.2.2.1 hb1, box_below HS0.2.2.2 hb1⟩
  refine ⟨_, rfl, fun _ => HS1, ?_⟩
  simp only [lxa, lxb, lxc]
  have hR1 := HR.out.1.below hb1
  have hz1 := box_below HR.out.2.2.1 hb1
  have k1 : Keep (fun j => j = q ∨ j = mb) w w1 := (Keep.ofBelow HR.out.2.1).trans (Keep.ofBelow hb1)
  have hbs := HR.out.2.2.2
  by_cases hen : en = 0
  ·subst hen
   refine lx_one 5 (by kernel_rfl) (stepT_call 19 ?c4 rfl rfl rfl ?d4 ?_)
   case d4 => first | (go_simp; rfl) | go_simp
   refine (cA.out w1 hR1).mono ?_
   rintro e w2 ⟨hg, hr2, k2⟩
   have he := hg.elim (fun k => k.2) (fun k => absurd rfl k.1)
   subst he
   have HS2 : w2.heap[b]? = some (.cells #[.pointer (some ⟨q, 0, none⟩)] 23 (0, 0)) ∧ w2.heap[b + 1]? = some (.cells #[.string s] 9 (0, 0)) ∧ w2.heap[b + 2]? = some (.cells #[.int .i64 mail] 3 (0, 0)) ∧ w2.heap[b + 3]? = some (.cells #[.int .u64 n2] 34 (0, 0)) := ⟨box_keep HS1.1 k2 (by omega), box_keep HS1.2.1 k2 (by omega), box_keep HS1.2.2.1 k2 (by omega), box_keep HS1.2.2.2 k2 (by omega)⟩
   refine ⟨_, rfl, fun _ => HS2, ?_⟩
   simp only [lxa, lxb, lxc]
   have hz2 := box_keep hz1 k2 (by omega)
   have k3 := rowK w2 w.heap.size (hec v.1 v.2.1 v.2.2)
   have HS3 : (w2.setRow w.heap.size (hec v.1 v.2.1 v.2.2)).heap[b]? = some (.cells #[.pointer (some ⟨q, 0, none⟩)] 23 (0, 0)) ∧ (w2.setRow w.heap.size (hec v.1 v.2.1 v.2.2)).heap[b + 1]? = some (.cells #[.string s] 9 (0, 0)) ∧ (w2.setRow w.heap.size (hec v.1 v.2.1 v.2.2)).heap[b + 2]? = some (.cells #[.int .i64 mail] 3 (0, 0)) ∧ (w2.setRow w.heap.size (hec v.1 v.2.1 v.2.2)).heap[b + 3]? = some (.cells #[.int .u64 n2] 34 (0, 0)) := ⟨box_keep HS2.1 k3 (by omega), box_keep HS2.2.1 k3 (by omega), box_keep HS2.2.2.1 k3 (by omega), box_keep HS2.2.2.2 k3 (by omega)⟩
   refine lx_one 6 (by kernel_rfl) (stepT_store (w' := w2.setRow w.heap.size (hec v.1 v.2.1 v.2.2)) rfl rfl rfl ?d5 (fun _ => HS3) ?_)
   case d5 => exact exec_store_row 40 (.tmp 4) (.tmp 10) rfl w.heap.size (hec v.1 v.2.1 v.2.2) _ rfl rfl hz2 (by rw [infoHeard]; rfl) (by rfl) (hec_one _ _ _)
   refine lx_nil (by kernel_rfl) ?_
   have a1 : RA (w2.setRow w.heap.size (hec v.1 v.2.1 v.2.2)) q mb R' := hr2.keep k3 (by omega) (by omega)
   have a2 := setRow_heap w2 w.heap.size _ (hec v.1 v.2.1 v.2.2) 40 (0, 0) hz2
   have a3 : Keep (fun j => j = q ∨ j = mb) w (w2.setRow w.heap.size (hec v.1 v.2.1 v.2.2)) := (k1.trans k2).andThen k3 (fun i h1 h2 => by omega)
   have hld := run_loadVar_row _ w.heap.size 40 40 _ (0, 0) _ a2 Tryd.underlying40 rfl (by rw [infoHeard]; rfl)
   go_wp2
   first | exact bodyPost_ret (res_row rfl _ _ _ _ rfl hld) rfl ⟨gv_ok rfl, a1, a3⟩ | exact bodyPost_end (res_row rfl _ _ _ _ rfl hld) rfl ⟨gv_ok rfl, a1, a3⟩
  ·refine lx_one 5 (by kernel_rfl) (stepT_callP 19 ?c4 rfl rfl rfl ?d4 ?_)
   case d4 => first | (go_simp; rfl) | go_simp
   refine (cA.out w1 hR1).mono ?_
   rintro e w2 ⟨hg, hr2, k2⟩
   have he := hg.elim (fun k => absurd k.1 hen) (fun k => k.2)
   subst he
   exact Or.inr ⟨_, rfl, rfl, gv_no hen rfl, hr2, k1.trans k2⟩
 ·rw [if_neg h0]
  have cl : Calls Tryd.prog 16 #[.string s] W fun e w' => e = .panicked (gaveR n) ∧ Below W.heap.size W w' := cLW.mono (fun e w' hh => ⟨hh.1.elim (fun k => absurd k.1 h0) (fun k => k.2), hh.2⟩)
  clear cLW
  go_enter Tryd.func18, Tryd.ntmps18
  go_upto_region 1 with fail
  refine wp_region_lx (fun w' => w'.heap[b]? = some (.cells #[.pointer (some ⟨q, 0, none⟩)] 23 (0, 0)) ∧ w'.heap[b + 1]? = some (.cells #[.string s] 9 (0, 0)) ∧ w'.heap[b + 2]? = some (.cells #[.int .i64 mail] 3 (0, 0)) ∧ w'.heap[b + 3]? = some (.cells #[.int .u64 n2] 34 (0, 0))) [] 7 (by kernel_rfl) (by kernel_rfl) ?_
  rw [show (w.alloc (.cells #[.int .i64 0, .bool false, .bool false] 40)).drew = W from HW.out]
  refine lx_r 0 (.pointer (some ⟨q, 0, none⟩)) HS0 ?_ (hv := fun w' hS => by have p := cell_one hS.1; first | (go_simp; rfl) | go_simp); simp only [lxa, lxb, lxc]
  refine lx_r 1 (.string s) HS0 ?_ (hv := fun w' hS => by have p := cell_one hS.2.1; first | (go_simp; rfl) | go_simp); simp only [lxa, lxb, lxc]
  refine lx_r 3 (.int .i64 mail) HS0 ?_ (hv := fun w' hS => by have p := cell_one hS.2.2.1; first | (go_simp; rfl) | go_simp); simp only [lxa, lxb, lxc]
  refine lx_r 4 (.int .u64 n2) HS0 ?_ (hv := fun w' hS => by have p := cell_one hS.2.2.2; first | (go_simp; rfl) | go_simp); simp only [lxa, lxb, lxc]
  refine lx_one 2 (by kernel_rfl) (stepT_callP 16 ?e2 rfl rfl rfl ?f2 ?_)
  case f2 => first | (go_simp; rfl) | go_simp
  refine cl.mono ?_
  rintro e w1 ⟨rfl, hb1⟩
  exact Or.inr ⟨_, rfl, rfl, gv_no h0 rfl, HR.out.1.below hb1, (Keep.ofBelow HR.out.2.1).trans (Keep.ofBelow hb1)⟩
end Go.Proofs.YtppdopcghnfapaaDoor

set_option maxRecDepth 100000
namespace Go.Proofs.YtppdopcghnfapaaDoor
open Go.RowKit Go.Joins
theorem res4 {fn : Func} {a b c d : Tmp} (h : fn.results = #[.tmp a, .tmp b, .tmp c, .tmp d]) (tmps : Array Value) (w : World) (va vb vc vd : Value) (ha : tmps.getD a undef = va) (hb : tmps.getD b undef = vb) (hc : tmps.getD c undef = vc) (hd : tmps.getD d undef = vd) :
  (results fn tmps).run Tryd.prog w = .ok (.tuple #[va, vb, vc, vd]) w := by
 have ha' : tmps[a]?.getD undef = va := by simpa using ha
 have hb' : tmps[b]?.getD undef = vb := by simpa using hb
 have hc' : tmps[c]?.getD undef = vc := by simpa using hc
 have hd' : tmps[d]?.getD undef = vd := by simpa using hd
 simp [results, h, ha', hb', hc', hd']
theorem actP_no (R : Ro) (c : ByteArray) (kind : Int) (h : (actP R c kind).2.1 ≠ 0) : (actP R c kind).1 = (0, 0, false) := by
 unfold actP at h ⊢
 split
 ·rfl
 ·rename_i h1
  rw [if_neg h1] at h
  split
  ·rfl
  ·rename_i h2
   rw [if_neg h2] at h
   split
   ·rename_i h3
    rw [if_pos h3] at h
    split
    ·rename_i h4
     rw [if_pos h4] at h
     exact absurd rfl h
    ·rfl
   ·rename_i h3
    rw [if_neg h3] at h
    split
    ·rename_i h4
     rw [if_pos h4] at h
     split
     ·rename_i h5
      rw [if_pos h5] at h
      exact absurd rfl h
     ·rfl
    ·rename_i h4
     rw [if_neg h4] at h
     exact absurd rfl h
theorem actS_no (R : Ro) (s : ByteArray) (kind : Int) (h : (actS R s kind).2.1 ≠ 0) : (actS R s kind).1 = (0, 0, false) := by
 unfold actS at h ⊢
 split
 ·rename_i h1
  rw [if_pos h1] at h
  exact actP_no R _ kind h
 ·rfl
theorem hearP_no (R : Ro) (c : ByteArray) (mail n : Int) (h : (hearP R c mail n).2.1 ≠ 0) : (hearP R c mail n).1 = (0, false, false) := by
 unfold hearP at h ⊢
 split
 ·rfl
 ·rename_i h1
  rw [if_neg h1] at h
  split
  ·rename_i h2
   rw [if_pos h2] at h
   exact absurd rfl h
  ·rename_i h2
   rw [if_neg h2] at h
   exact absurd rfl h
theorem hearS_no (R : Ro) (s : ByteArray) (mail n : Int) (h : (hearS R s mail n).2.1 ≠ 0) : (hearS R s mail n).1 = (0, false, false) := by
 unfold hearS at h ⊢
 split
 ·rename_i h1
  rw [if_pos h1] at h
  exact hearP_no R _ mail n h
 ·rfl
theorem pair_eta {α β γ : Type} (v : α × β × γ) {a : α} {b : β} {c : γ} (h : v = (a, b, c)) : v.1 = a ∧ v.2.1 = b ∧ v.2.2 = c := by subst h; exact ⟨rfl, rfl, rfl⟩
theorem attActR (b : Nat) (w : World) (q mb : Nat) (R : Ro) (h : RA w q mb R) (hG : RG R) (s : ByteArray) (hs : s.size ≤ 1000000) (kind : Int) (hq : q < b) (hm : mb < b) (hT : Lib.Utf8Tabs 0 1 w) (hp : (prepB s).size ≤ 1000000) (x0 : w.heap[b]? = some (.cells #[.pointer (some ⟨q, 0, none⟩)] 23 (0, 0))) (x1 : w.heap[b + 1]? = some (.cells #[.string s] 9 (0, 0))) (x2 : w.heap[b + 2]? = some (.cells #[.int .i64 kind] 3 (0, 0))) :
  Calls Tryd.prog 13 #[.func (.func 14) #[] #[.pointer (some ⟨b, 0, none⟩), .pointer (some ⟨b + 1, 0, none⟩), .pointer (some ⟨b + 2, 0, none⟩)]] w fun e w' => e = .returned (.tuple #[.agg (acc (actS R s kind).1.1 (actS R s kind).1.2.1 (actS R s kind).1.2.2), .int .i64 (actS R s kind).2.1]) ∧ RA w' q mb (actS R s kind).2.2 ∧ Keep (fun j => j = q ∨ j = mb) w w' := by
 have hbW := below2 w (.cells (acc 0 0 false) 56) (.cells #[.int .i64 0] 28)
 have hbs : b < w.heap.size := (Array.getElem?_eq_some_iff.1 x0).1
 have hno := actS_no R s kind
 have hc := actC_R b _ q mb R (h.below hbW) hG s hs kind hq hm (tabs_bel hT hbW) hp (box_below x0 hbW) (box_below x1 hbW) (box_below x2 hbW)
 generalize actS R s kind = r at hc hno ⊢
 obtain ⟨⟨v1, v2, v3⟩, en, R'⟩ := r
 refine (attemptA 14 _ en v1 v2 v3 (fun j => j = q ∨ j = mb) (fun w' => RA w' q mb R') w (fun args w => by kernel_rfl) (fun i hi => by omega) hc).mono ?_
 rintro e w' ⟨rfl, w1, hr, k1, k2⟩
 refine ⟨?_, hr.keep k2 (by omega) (by omega), k1.andThen k2 (fun i h1 h2 => by omega)⟩
 by_cases h0 : en = 0
 ·rw [if_pos h0]
 ·rw [if_neg h0]
  obtain ⟨e1, e2, e3⟩ := pair_eta _ (hno h0)
  have e1' : v1 = _ := e1
  have e2' : v2 = _ := e2
  have e3' : v3 = _ := e3
  rw [e1', e2', e3']
theorem attHearR (b : Nat) (w : World) (q mb : Nat) (R : Ro) (h : RA w q mb R) (hG : RG R) (s : ByteArray) (hs : s.size ≤ 1000000) (mail n2 : Int) (hq : q < b) (hm : mb < b) (hT : Lib.Utf8Tabs 0 1 w) (hp : (prepB s).size ≤ 1000000) (x0 : w.heap[b]? = some (.cells #[.pointer (some ⟨q, 0, none⟩)] 23 (0, 0))) (x1 : w.heap[b + 1]? = some (.cells #[.string s] 9 (0, 0))) (x2 : w.heap[b + 2]? = some (.cells #[.int .i64 mail] 3 (0, 0))) (x3 : w.heap[b + 3]? = some (.cells #[.int .u64 n2] 34 (0, 0))) :
  Calls Tryd.prog 17 #[.func (.func 18) #[] #[.pointer (some ⟨b, 0, none⟩), .pointer (some ⟨b + 1, 0, none⟩), .pointer (some ⟨b + 2, 0, none⟩), .pointer (some ⟨b + 3, 0, none⟩)]] w fun e w' => e = .returned (.tuple #[.agg (hec (hearS R s mail n2).1.1 (hearS R s mail n2).1.2.1 (hearS R s mail n2).1.2.2), .int .i64 (hearS R s mail n2).2.1]) ∧ RA w' q mb (hearS R s mail n2).2.2 ∧ Keep (fun j => j = q ∨ j = mb) w w' := by
 have hbW := below2 w (.cells (hec 0 false false) 40) (.cells #[.int .i64 0] 28)
 have hbs : b < w.heap.size := (Array.getElem?_eq_some_iff.1 x0).1
 have hno := hearS_no R s mail n2
 have hc := hearC_R b _ q mb R (h.below hbW) hG s hs mail n2 hq hm (tabs_bel hT hbW) hp (box_below x0 hbW) (box_below x1 hbW) (box_below x2 hbW) (box_below x3 hbW)
 generalize hearS R s mail n2 = r at hc hno ⊢
 obtain ⟨⟨v1, v2, v3⟩, en, R'⟩ := r
 refine (attemptH 18 _ en v1 v2 v3 (fun j => j = q ∨ j = mb) (fun w' => RA w' q mb R') w (fun args w => by kernel_rfl) (fun i hi => by omega) hc).mono ?_
 rintro e w' ⟨rfl, w1, hr, k1, k2⟩
 refine ⟨?_, hr.keep k2 (by omega) (by omega), k1.andThen k2 (fun i h1 h2 => by omega)⟩
 by_cases h0 : en = 0
 ·rw [if_pos h0]
 ·rw [if_neg h0]
  obtain ⟨e1, e2, e3⟩ := pair_eta _ (hno h0)
  have e1' : v1 = _ := e1
  have e2' : v2 = _ := e2
  have e3' : v3 = _ := e3
  rw [e1', e2', e3']
set_option maxHeartbeats 800000 in
theorem Act_R (w : World) (q mb : Nat) (R : Ro) (h : RA w q mb R) (hG : RG R) (s : ByteArray) (hs : s.size ≤ 1000000) (kind : Int) (hT : Lib.Utf8Tabs 0 1 w) (hp : (prepB s).size ≤ 1000000) :
  Calls Tryd.prog 6 #[.pointer (some ⟨q, 0, none⟩), .string s, .int .i64 kind] w fun e w' => e = .returned (.tuple #[.int .i64 (actS R s kind).1.1, .int .u64 (actS R s kind).1.2.1, .bool (actS R s kind).1.2.2, .int .i64 (actS R s kind).2.1]) ∧ RA w' q mb (actS R s kind).2.2 ∧ Keep (fun j => j = q ∨ j = mb) w w' := by
 have hmf : ∀ (fn : Fn) (first cap : Array Value) (w : World), (Instr.makeFunc fn first cap).run Tryd.prog w = .ok (.func fn first cap) w := fun _ _ _ _ => rfl
 have hb : Below w.heap.size w (((w.alloc (.cells #[.pointer (some ⟨q, 0, none⟩)] 23)).alloc (.cells #[.string s] 9)).alloc (.cells #[.int .i64 kind] 3)) := ((((Below.refl _ _).alloc (Nat.le_refl _) _).alloc (by simp) _).alloc (by simp; omega) _)
 have hq := h.lt
 have hm := h.map.lt
 have hc := attActR w.heap.size _ q mb R (h.below hb) hG s hs kind hq hm (tabs_bel hT hb) hp (push_old (push_old (push_at _ _ rfl))) (push_old (push_at _ _ (by simp))) (push_at _ _ (by simp))
 generalize actS R s kind = r at hc ⊢
 obtain ⟨⟨m, n, ch⟩, en, R'⟩ := r
 dsimp only at hc ⊢
 have HB : Hid _ := hb
 have HL : Hid (q < w.heap.size ∧ mb < w.heap.size) := ⟨hq, hm⟩
 clear h hT hb hq hm hp
 unfold acc at hc
 go_enter Tryd.func6, Tryd.ntmps6
 go_upto_region 2 with (first
  | (go_at_call 13; refine hc.mono ?_; clear hc; rintro e w4 ⟨rfl, hr4, k4⟩))
 have hk : Keep (fun j => j = q ∨ j = mb) w w4 := (Keep.ofBelow HB.out).trans k4
 have q0 : (w4.alloc (.cells #[.int .i64 m, .int .u64 n, .bool ch] 56)).cell? ⟨w4.heap.size, 0, none⟩ = some (.int .i64 m) := by rw [cell_of_block (push_at _ _ rfl)]; rfl
 have q1 : (w4.alloc (.cells #[.int .i64 m, .int .u64 n, .bool ch] 56)).cell? ⟨w4.heap.size, 1, none⟩ = some (.int .u64 n) := by rw [cell_of_block (push_at _ _ rfl)]; rfl
 have q2 : (w4.alloc (.cells #[.int .i64 m, .int .u64 n, .bool ch] 56)).cell? ⟨w4.heap.size, 2, none⟩ = some (.bool ch) := by rw [cell_of_block (push_at _ _ rfl)]; rfl
 have hb5 := below1 w4 (.cells #[.int .i64 m, .int .u64 n, .bool ch] 56)
 have hR5 : Hid (∀ w', Below (w4.alloc (.cells #[.int .i64 m, .int .u64 n, .bool ch] 56)).heap.size (w4.alloc (.cells #[.int .i64 m, .int .u64 n, .bool ch] 56)) w' → RA w' q mb R' ∧ Keep (fun j => j = q ∨ j = mb) w w') := fun w' hb => ⟨(hr4.below hb5).below hb, (hk.trans (Keep.ofBelow hb5)).trans (Keep.ofBelow hb)⟩
 clear hr4 k4 hk hb5
 generalize w4.alloc _ = W at *
 generalize w4.heap.size = g at *
 go_quiet (fail)
 go_wp2
 refine bodyPost_ret (res4 rfl _ _ _ _ _ _ rfl rfl rfl rfl) rfl ⟨rfl, ?_⟩
 exact hR5.out _ ⟨rfl, rfl, rfl, Nat.le_refl _, fun _ _ => rfl⟩
theorem resCT {fn : Func} {p t : Tmp} {ty : TypeId} (h : fn.results = #[.cell p ty, .tmp t]) (tmps : Array Value) (w : World) (g : Nat) (V v : Value) (hp : tmps.getD p undef = .pointer (some ⟨g, 0, none⟩)) (ht : tmps.getD t undef = v) (hr : (loadVar ty ⟨g, 0, none⟩).run Tryd.prog w = .ok V w) :
  (results fn tmps).run Tryd.prog w = .ok (.tuple #[V, v]) w := by
 have hp' : tmps[p]?.getD undef = .pointer (some ⟨g, 0, none⟩) := by simpa using hp
 have ht' : tmps[t]?.getD undef = v := by simpa using ht
 simp [results, h, hp', ht', asAddr, hr]
set_option maxHeartbeats 800000 in
theorem Hear_R (w : World) (q mb : Nat) (R : Ro) (h : RA w q mb R) (hG : RG R) (s : ByteArray) (hs : s.size ≤ 1000000) (mail n2 : Int) (hT : Lib.Utf8Tabs 0 1 w) (hp : (prepB s).size ≤ 1000000) :
  Calls Tryd.prog 7 #[.pointer (some ⟨q, 0, none⟩), .string s, .int .i64 mail, .int .u64 n2] w fun e w' => e = .returned (.tuple #[.agg (hec (hearS R s mail n2).1.1 (hearS R s mail n2).1.2.1 (hearS R s mail n2).1.2.2), .int .i64 (hearS R s mail n2).2.1]) ∧ RA w' q mb (hearS R s mail n2).2.2 ∧ Keep (fun j => j = q ∨ j = mb) w w' := by
 have hmf : ∀ (fn : Fn) (first cap : Array Value) (w : World), (Instr.makeFunc fn first cap).run Tryd.prog w = .ok (.func fn first cap) w := fun _ _ _ _ => rfl
 have hb : Below w.heap.size w (((((w.alloc (.cells #[.pointer (some ⟨q, 0, none⟩)] 23)).alloc (.cells #[.string s] 9)).alloc (.cells #[.int .i64 mail] 3)).alloc (.cells #[.int .u64 n2] 34)).alloc (.cells (hec 0 false false) 40)) := ((((((Below.refl _ _).alloc (Nat.le_refl _) _).alloc (by simp) _).alloc (by simp; omega) _).alloc (by simp; omega) _).alloc (by simp; omega) _)
 have hz : (((((w.alloc (.cells #[.pointer (some ⟨q, 0, none⟩)] 23)).alloc (.cells #[.string s] 9)).alloc (.cells #[.int .i64 mail] 3)).alloc (.cells #[.int .u64 n2] 34)).alloc (.cells (hec 0 false false) 40)).heap[w.heap.size + 4]? = some (.cells (hec 0 false false) 40 (0, 0)) := push_at _ _ (by simp)
 have hq := h.lt
 have hm := h.map.lt
 have hc := attHearR w.heap.size _ q mb R (h.below hb) hG s hs mail n2 hq hm (tabs_bel hT hb) hp (push_old (push_old (push_old (push_old (push_at _ _ rfl))))) (push_old (push_old (push_old (push_at _ _ (by simp))))) (push_old (push_old (push_at _ _ (by simp)))) (push_old (push_at _ _ (by simp)))
 generalize hearS R s mail n2 = r at hc ⊢
 obtain ⟨⟨t, d, ch⟩, en, R'⟩ := r
 dsimp only at hc ⊢
 have HB : Hid (Below w.heap.size w _ ∧ _ = _) := ⟨hb, hz⟩
 have HL : Hid (q < w.heap.size ∧ mb < w.heap.size) := ⟨hq, hm⟩
 clear h hT hb hq hm hp hz
 obtain ⟨V, HV⟩ : ∃ V, Hid (Value.agg (hec t d ch) = V) := ⟨_, rfl⟩
 rw [HV.out] at hc ⊢
 have hec0 : hec 0 false false = #[.int .i64 0, .bool false, .bool false] := rfl
 rw [hec0] at hc
 clear hec0
 go_enter Tryd.func7, Tryd.ntmps7
 go_wp2_with (first
  | (go_at_call 17; refine hc.mono ?_; clear hc; rintro e w4 ⟨rfl, hr4, k4⟩; have z4 := box_keep HB.out.2 k4 (by have := HL.out; omega))
  | (refine wpList_store_row rfl 40 (.tmp 8) (.tmp 12) rfl (w.heap.size + 4) (hec t d ch) rfl HV.out.symm 40 _ z4 (by rw [infoHeard]; rfl) (by rfl) (hec_one _ _ _) ?_))
 have k5 := rowK w4 (w.heap.size + 4) (hec t d ch)
 have a2 := setRow_heap w4 (w.heap.size + 4) _ (hec t d ch) 40 (0, 0) z4
 have hld := run_loadVar_row _ (w.heap.size + 4) 40 40 _ (0, 0) _ a2 Tryd.underlying40 rfl (by rw [infoHeard]; rfl)
 rw [HV.out] at hld
 refine bodyPost_ret (resCT rfl _ _ _ _ _ rfl rfl hld) rfl ⟨rfl, hr4.keep k5 (by have := HL.out; omega) (by have := HL.out; omega), ((Keep.ofBelow HB.out.1).trans k4).andThen k5 (fun i h1 h2 => by omega)⟩
end Go.Proofs.YtppdopcghnfapaaDoor

set_option maxRecDepth 100000
namespace Go.Proofs.YtppdopcghnfapaaDoor
open Go.RowKit Go.Joins Go.Shelf
theorem clone_any (s : ByteArray) (w : World) (hs : s.size ≤ 281474976710656) : Calls Tryd.prog 49 #[.string s] w fun e w' => e = .returned (.string s) ∧ Below w.heap.size w w' := by
 have c : Calls Tryd.prog 67 #[.string s] w fun e w' => e = .returned (.string s) ∧ Below w.heap.size w w' := Any.stringslite_Clone Tryd.laysM316 s w hs
 go_enter Tryd.func49, Tryd.ntmps49
 go_wp2_with (go_at_call 67; refine c.mono ?_; rintro e w1 ⟨rfl, hb⟩)
 go_ret
 exact ⟨rfl, hb⟩
theorem copiedNil (w : World) : Calls Tryd.prog 50 #[.slice none 0 0] w fun e w' => e = .returned (.slice none 0 0) ∧ w' = w := by
 go_enter Tryd.func50, Tryd.ntmps50
 go_wp2_with fail
 refine wp_loop_once ?_
 go_wp2
 go_ret
 exact ⟨rfl, rfl⟩
def CP (w : World) (B : Nat) (x : En) (W : World) : Prop := (EnAt W B x ∧ EnAt W (B + 1) (en0 ⟨#[]⟩)) ∧ Below w.heap.size w W ∧ w.heap.size = B
theorem CP.below {w : World} {B : Nat} {x : En} {W W' : World} (h : CP w B x W) (hb : Below W.heap.size W W') : CP w B x W' := ⟨⟨h.1.1.carry hb, h.1.2.carry hb⟩, h.2.1.trans (hb.mono (by have := h.2.1.size; omega)), h.2.2⟩
theorem CP.set {w : World} {B : Nat} {x : En} {W : World} (h : CP w B x W) (i : Nat) (v : Value) (e : (enc x).setIfInBounds i v = enc x) : CP w B x (W.setCell ⟨B, i, none⟩ v) := by
 have a := block_setCell (i := i) h.1.1 v
 rw [e] at a
 have := h.2.2
 have := h.1.1.lt
 exact ⟨⟨a, h.1.2.keep (setK W B i v) (by omega)⟩, h.2.1.trans ((setK W B i v).below (by omega) (fun j hj => by omega)), h.2.2⟩
set_option maxHeartbeats 800000 in
theorem copied_any (x : En) (hc : x.c.size ≤ 1000000) (hn : x.nm.size ≤ 1000000) (hg : x.g = (none, 0, 0)) (w : World) : Calls Tryd.prog 37 #[env x] w fun e w' => e = .returned (env x) ∧ Below w.heap.size w w' := by
 obtain ⟨c, k, nm, g, ho, hn', hi, hm⟩ := x
 dsimp only at hc hn hg
 subst hg
 have c1 := fun w => clone_any c w (by omega)
 have c2 := fun w => clone_any nm w (by omega)
 have c3 := fun w => copiedNil w
 have h2 : EnAt ((w.alloc (.cells #[.string c, .bool k, .string nm, .slice none 0 0, .int .i64 ho, .int .u64 hn', .int .i64 hi, .int .u64 hm] 47)).alloc (.cells #[.string ⟨#[]⟩, .bool false, .string ⟨#[]⟩, .slice none 0 0, .int .i64 0, .int .u64 0, .int .i64 0, .int .u64 0] 47)) (w.heap.size + 1) (en0 ⟨#[]⟩) := push_at _ _ (by simp)
 have h1 : EnAt ((w.alloc (.cells #[.string c, .bool k, .string nm, .slice none 0 0, .int .i64 ho, .int .u64 hn', .int .i64 hi, .int .u64 hm] 47)).alloc (.cells #[.string ⟨#[]⟩, .bool false, .string ⟨#[]⟩, .slice none 0 0, .int .i64 0, .int .u64 0, .int .i64 0, .int .u64 0] 47)) w.heap.size ⟨c, k, nm, (none, 0, 0), ⟨ho, hn', hi, hm⟩⟩ := push_old (push_at _ _ rfl)
 have hb := below2 w (.cells #[.string c, .bool k, .string nm, .slice none 0 0, .int .i64 ho, .int .u64 hn', .int .i64 hi, .int .u64 hm] 47) (.cells #[.string ⟨#[]⟩, .bool false, .string ⟨#[]⟩, .slice none 0 0, .int .i64 0, .int .u64 0, .int .i64 0, .int .u64 0] 47)
 have HO : Hid (CP w w.heap.size ⟨c, k, nm, (none, 0, 0), ⟨ho, hn', hi, hm⟩⟩ ((w.alloc (.cells #[.string c, .bool k, .string nm, .slice none 0 0, .int .i64 ho, .int .u64 hn', .int .i64 hi, .int .u64 hm] 47)).alloc (.cells #[.string ⟨#[]⟩, .bool false, .string ⟨#[]⟩, .slice none 0 0, .int .i64 0, .int .u64 0, .int .i64 0, .int .u64 0] 47))) := ⟨⟨h1, h2⟩, hb, rfl⟩
 obtain ⟨V, HV⟩ : ∃ V, Hid (env ⟨c, k, nm, (none, 0, 0), ⟨ho, hn', hi, hm⟩⟩ = V) := ⟨_, rfl⟩
 rw [HV.out]
 rw [show V = .agg #[.string c, .bool k, .string nm, .slice none 0 0, .int .i64 ho, .int .u64 hn', .int .i64 hi, .int .u64 hm] from HV.out.symm]
 clear h1 h2 hb hc hn
 go_enter Tryd.func37, Tryd.ntmps37
 go_upto_region 1 with fail
 generalize ((w.alloc _).alloc _) = W0 at HO ⊢
 obtain ⟨B, HB⟩ : ∃ B, Hid (w.heap.size = B) := ⟨_, rfl⟩
 rw [HB.out] at HO ⊢
 have q0 := HO.out.1.1.c0
 go_upto_region 2 with (first
  | (go_at_call 49; refine (c1 _).mono ?_; clear c1; rintro e w1 ⟨rfl, hb1⟩; have P1 : Hid (CP w B ⟨c, k, nm, (none, 0, 0), ⟨ho, hn', hi, hm⟩⟩ w1) := HO.out.below hb1; have r0 := P1.out.1.1.c0; have s0 := P1.out.1.1.fz 0))
 have P2 : Hid (CP w B ⟨c, k, nm, (none, 0, 0), ⟨ho, hn', hi, hm⟩⟩ (w1.setCell ⟨B, 0, none⟩ (.string c))) := P1.out.set 0 _ rfl
 clear q0 hb1 r0 s0 HO P1
 generalize w1.setCell _ _ = W1 at P2 ⊢
 have q0 := P2.out.1.1.c2
 go_upto_region 3 with (first
  | (go_at_call 49; refine (c2 _).mono ?_; clear c2; rintro e w2 ⟨rfl, hb1⟩; have P1 : Hid (CP w B ⟨c, k, nm, (none, 0, 0), ⟨ho, hn', hi, hm⟩⟩ w2) := P2.out.below hb1; have r0 := P1.out.1.1.c2; have s0 := P1.out.1.1.fz 2))
 have P3 : Hid (CP w B ⟨c, k, nm, (none, 0, 0), ⟨ho, hn', hi, hm⟩⟩ (w2.setCell ⟨B, 2, none⟩ (.string nm))) := P1.out.set 2 _ rfl
 clear q0 hb1 r0 s0 P2 P1
 generalize w2.setCell _ _ = W2 at P3 ⊢
 have q0 : W2.cell? ⟨B, 3, none⟩ = some (.slice none 0 0) := P3.out.1.1.c3
 have s0 := P3.out.1.1.fz 3
 go_upto_region 4 with (first
  | (go_at_call 50; refine (c3 _).mono ?_; clear c3; rintro e w3 ⟨rfl, hw3⟩; replace hw3 := hw3.symm; subst hw3))
 have P4 : Hid (CP w B ⟨c, k, nm, (none, 0, 0), ⟨ho, hn', hi, hm⟩⟩ (W2.setCell ⟨B, 3, none⟩ (.slice none 0 0))) := P3.out.set 3 _ rfl
 clear q0 s0 P3
 generalize W2.setCell _ _ = W3 at P4 ⊢
 go_wp2_with (first
  | (refine wp_load_en rfl (.tmp 1) rfl B rfl ⟨c, k, nm, (none, 0, 0), ⟨ho, hn', hi, hm⟩⟩ P4.out.1.1 ?_)
  | (refine wp_store_en rfl (.tmp 2) (.tmp 15) rfl (B + 1) rfl ⟨c, k, nm, (none, 0, 0), ⟨ho, hn', hi, hm⟩⟩ rfl _ P4.out.1.2 ?_))
 have e1 := P4.out.1.2.set ⟨c, k, nm, (none, 0, 0), ⟨ho, hn', hi, hm⟩⟩
 have e2 := P4.out.1.2.setB P4.out.2.1 (by have := HB.out; omega) (enc ⟨c, k, nm, (none, 0, 0), ⟨ho, hn', hi, hm⟩⟩)
 refine bodyPost_ret (v := env ⟨c, k, nm, (none, 0, 0), ⟨ho, hn', hi, hm⟩⟩) ?_ rfl ⟨rfl, e2⟩
 exact res_en rfl _ _ (B + 1) _ rfl e1
def getP (R : Ro) (c : ByteArray) : En × Nat × Ro := if thr (ofE R c) = true then (ofE R c, 0, R) else (en0 ⟨#[]⟩, 7, R)
def getS (R : Ro) (s : ByteArray) : En × Nat × Ro := if prepE s = 0 then getP R (prepB s) else (en0 ⟨#[]⟩, prepE s, R)
set_option maxHeartbeats 800000 in
theorem get_any (w : World) (q mb : Nat) (R : Ro) (h : RA w q mb R) (hG : RG R) (c : ByteArray) (hc : c.size ≤ 1000000) (hg0 : ∀ c, (ofE R c).g = (none, 0, 0) ∧ (ofE R c).nm.size ≤ 1000000) :
  Calls Tryd.prog 22 #[.pointer (some ⟨q, 0, none⟩), .string c] w fun e w' => GaveV (getP R c).2.1 (.agg (enc (getP R c).1)) e ∧ RA w' q mb (getP R c).2.2 ∧ Keep (fun j => j = q ∨ j = mb) w w' := by
 have hxc : (ofE R c).c.size ≤ 1000000 := by rw [hG.of]; exact hc
 have cO := of_any (w.alloc (.cells #[.string ⟨#[]⟩, .bool false, .string ⟨#[]⟩, .slice none 0 0, .int .i64 0, .int .u64 0, .int .i64 0, .int .u64 0] 47)) q mb R (h.below (below1 _ _)) c hc
 have cC := fun w => copied_any (ofE R c) hxc (hg0 c).2 (hg0 c).1 w
 have cI := fun w => isThere_any (ofE R c) w
 have cI2 : ∀ v, thr (ofE R c) = v → ∀ w, Calls Tryd.prog 34 #[env (ofE R c)] w fun e w' => e = .returned (.bool v) ∧ Below w.heap.size w w' := fun v e w => by rw [← e]; exact cI w
 clear cI
 have HR : Hid (RA w q mb R) := h
 have hz : EnAt (w.alloc (.cells #[.string ⟨#[]⟩, .bool false, .string ⟨#[]⟩, .slice none 0 0, .int .i64 0, .int .u64 0, .int .i64 0, .int .u64 0] 47)) w.heap.size (en0 ⟨#[]⟩) := push_at _ _ rfl
 unfold getP
 generalize ofE R c = x at *
 have h0b : Below w.heap.size w (w.alloc (.cells #[.string ⟨#[]⟩, .bool false, .string ⟨#[]⟩, .slice none 0 0, .int .i64 0, .int .u64 0, .int .i64 0, .int .u64 0] 47)) := below1 _ _
 have HZ : Hid (EnAt (w.alloc (.cells #[.string ⟨#[]⟩, .bool false, .string ⟨#[]⟩, .slice none 0 0, .int .i64 0, .int .u64 0, .int .i64 0, .int .u64 0] 47)) w.heap.size (en0 ⟨#[]⟩) ∧ Below w.heap.size w (w.alloc (.cells #[.string ⟨#[]⟩, .bool false, .string ⟨#[]⟩, .slice none 0 0, .int .i64 0, .int .u64 0, .int .i64 0, .int .u64 0] 47))) := ⟨hz, h0b⟩
 clear hz h0b h hG hc hg0 hxc
 obtain ⟨V, HV⟩ : ∃ V, Hid (env x = V) := ⟨_, rfl⟩
 cases ht : thr x with
 | true =>
  have cI := cI2 true ht
  have cD := fun w => demR_ok 7 w
  clear ht cI2
  rw [if_pos rfl]
  dsimp only
  rw [show Value.agg (enc x) = V from HV.out]
  rw [show env x = .agg (enc x) from rfl] at cO
  unfold enc gsv at cO
  go_enter Tryd.func22, Tryd.ntmps22
  go_upto_region 2 with (first
   | (go_at_call 27; refine cO.mono ?_; clear cO; rintro e w1 ⟨rfl, hb1⟩))
  have A1 : Hid (EnAt (w1.alloc (.cells (enc x) 47)) w1.heap.size x ∧ EnAt (w1.alloc (.cells (enc x) 47)) w.heap.size (en0 ⟨#[]⟩) ∧ Below w.heap.size w (w1.alloc (.cells (enc x) 47)) ∧ w.heap.size < w1.heap.size) := by
   have l1 := HZ.out.1.lt
   have l2 := hb1.size
   exact ⟨EnAt.made _ _, (HZ.out.1.carry hb1).carry (below1 _ _), ((HZ.out.2.trans (hb1.mono (by have := HZ.out.2.size; omega))).alloc (by omega) _), by omega⟩
  unfold enc gsv at A1
  clear hb1
  obtain ⟨B, HB⟩ : ∃ B, Hid (w1.heap.size = B) := ⟨_, rfl⟩
  rw [HB.out] at A1 ⊢
  generalize w1.alloc _ = W at A1 ⊢
  have tk : True := trivial
  go_upto_region 3 with (first
   | (refine wp_load_en rfl (.tmp 5) rfl B rfl x A1.out.1 ?_)
   | (go_at_call 34; refine (cI _).mono ?_; clear cI; rintro e w2 ⟨rfl, hb2⟩)
   | (go_at_call 24; refine (cD _).mono ?_; clear cD; rintro e w3 ⟨rfl, hw3⟩; replace hw3 := hw3.symm; subst hw3))
  have A2 : Hid (EnAt w2 B x ∧ EnAt w2 w.heap.size (en0 ⟨#[]⟩) ∧ Below w.heap.size w w2 ∧ w.heap.size < B) := ⟨A1.out.1.carry hb2, A1.out.2.1.carry hb2, A1.out.2.2.1.trans (hb2.mono (by have := A1.out.2.2.1.size; omega)), A1.out.2.2.2⟩
  clear hb2
  go_wp2_with (first
   | (refine wp_load_en rfl (.tmp 5) rfl B rfl x A2.out.1 ?_)
   | (go_at_call 37; refine (cC _).mono ?_; clear cC; rintro e w5 ⟨rfl, hb5⟩; have A3 : EnAt w5 w.heap.size (en0 ⟨#[]⟩) := A2.out.2.1.carry hb5)
   | (refine wp_store_en rfl (.tmp 4) (.tmp 13) rfl w.heap.size rfl x rfl _ A3 ?_))
  have e1 := A3.set x
  have hbl : Below w.heap.size w w5 := A2.out.2.2.1.trans (hb5.mono (by have := A2.out.2.2.1.size; omega))
  have e2 := A3.setB hbl (Nat.le_refl _) (enc x)
  refine bodyPost_ret (v := env x) ?_ rfl ⟨gv_ok (by rw [← HV.out]), HR.out.below e2, Keep.ofBelow e2⟩
  exact res_en rfl _ _ w.heap.size _ rfl e1
 | false =>
  have cI := cI2 false ht
  have cD := fun w => demR_no 7 w
  clear ht cI2 cC
  rw [if_neg (by decide)]
  rw [show env x = .agg (enc x) from rfl] at cO
  unfold enc gsv at cO
  go_enter Tryd.func22, Tryd.ntmps22
  go_upto_region 2 with (first
   | (go_at_call 27; refine cO.mono ?_; clear cO; rintro e w1 ⟨rfl, hb1⟩))
  have A1 : Hid (EnAt (w1.alloc (.cells (enc x) 47)) w1.heap.size x ∧ Below w.heap.size w (w1.alloc (.cells (enc x) 47))) := by
   have l1 := HZ.out.1.lt
   have l2 := hb1.size
   exact ⟨EnAt.made _ _, ((HZ.out.2.trans (hb1.mono (by have := HZ.out.2.size; omega))).alloc (by omega) _)⟩
  unfold enc gsv at A1
  clear hb1
  generalize w1.alloc _ = W at A1 ⊢
  go_wp2_with (first
   | (refine wp_load_en rfl (.tmp 5) rfl w1.heap.size rfl x A1.out.1 ?_)
   | (go_at_call 34; refine (cI _).mono ?_; clear cI; rintro e w2 ⟨rfl, hb2⟩)
   | (go_at_call 24; refine (cD _).mono ?_; clear cD; rintro e w3 ⟨rfl, hw3⟩; replace hw3 := hw3.symm; subst hw3))
  have e2 : Below w.heap.size w w2 := A1.out.2.trans (hb2.mono (by have := A1.out.2.size; omega))
  exact ⟨rfl, gv_no (show (7 : Nat) ≠ 0 by decide) rfl, HR.out.below e2, Keep.ofBelow e2⟩
end Go.Proofs.YtppdopcghnfapaaDoor

set_option maxRecDepth 100000
namespace Go.Proofs.YtppdopcghnfapaaDoor
open Go.RowKit Go.Joins
set_option maxHeartbeats 1600000 in
theorem getC_R (b : Nat) (w : World) (q mb : Nat) (R : Ro) (h : RA w q mb R) (hG : RG R) (s : ByteArray) (hs : s.size ≤ 1000000) (hg0 : ∀ c, (ofE R c).g = (none, 0, 0) ∧ (ofE R c).nm.size ≤ 1000000) (hq : q < b) (hm : mb < b) (hT : Lib.Utf8Tabs 0 1 w) (hp : (prepB s).size ≤ 1000000) (x0 : w.heap[b]? = some (.cells #[.pointer (some ⟨q, 0, none⟩)] 23 (0, 0))) (x1 : w.heap[b + 1]? = some (.cells #[.string s] 9 (0, 0))) :
  Calls Tryd.prog 21 #[.pointer (some ⟨b, 0, none⟩), .pointer (some ⟨b + 1, 0, none⟩)] w fun e w' => GaveV (getS R s).2.1 (.agg (enc (getS R s).1)) e ∧ RA w' q mb (getS R s).2.2 ∧ Keep (fun j => j = q ∨ j = mb) w w' := by
 have hbs : b + 1 < w.heap.size := (Array.getElem?_eq_some_iff.1 x1).1
 have cL := rlocal_any s w.drew (by omega) (tabs_bel hT (Below.refl _ _).drew)
 have cl2 := fun w1 (hb : Below w.heap.size w w1) => cL
 unfold getS
 generalize hW : (w.alloc (.cells (enc (en0 ⟨#[]⟩)) 47)).drew = W
 have hbW : Below w.heap.size w W := by rw [← hW]; exact (below1 _ _).drew
 have hz : W.heap[w.heap.size]? = some (.cells (enc (en0 ⟨#[]⟩)) 47 (0, 0)) := by rw [← hW]; exact push_at _ _ rfl
 have HW : Hid ((w.alloc (.cells (enc (en0 ⟨#[]⟩)) 47)).drew = W) := hW
 have HS0 : W.heap[b]? = some (.cells #[.pointer (some ⟨q, 0, none⟩)] 23 (0, 0)) ∧ W.heap[b + 1]? = some (.cells #[.string s] 9 (0, 0)) := ⟨box_below x0 hbW, box_below x1 hbW⟩
 have cLW := rlocal_any s W (by omega) (tabs_bel hT hbW)
 have hRW := h.below hbW
 clear cL cl2 hW x0 x1 hT
 have HR : Hid (RA W q mb R ∧ Below w.heap.size w W ∧ W.heap[w.heap.size]? = some (.cells (enc (en0 ⟨#[]⟩)) 47 (0, 0)) ∧ b + 1 < w.heap.size) := ⟨hRW, hbW, hz, hbs⟩
 clear h hRW hbW hz hbs
 unfold prepE prepB at *
 generalize Nm.localN s.data.toList = p at *
 obtain ⟨l, n⟩ := p
 by_cases h0 : n = 0
 ·subst h0
  rw [if_pos rfl]
  have cl : Calls Tryd.prog 16 #[.string s] W fun e w' => e = .returned (.string ⟨l.toArray⟩) ∧ Below W.heap.size W w' := cLW.mono (fun e w' hh => ⟨hh.1.elim (fun k => k.2) (fun k => absurd rfl k.1), hh.2⟩)
  clear cLW
  dsimp only at hp ⊢
  generalize (⟨l.toArray⟩ : ByteArray) = c at *
  have cA : Hid (∀ w1, RA w1 q mb R → Calls Tryd.prog 22 #[.pointer (some ⟨q, 0, none⟩), .string c] w1 fun e w' => GaveV (getP R c).2.1 (.agg (enc (getP R c).1)) e ∧ RA w' q mb (getP R c).2.2 ∧ Keep (fun j => j = q ∨ j = mb) w1 w') := fun w1 hr => get_any w1 q mb R hr hG c hp hg0
  generalize getP R c = r at cA ⊢
  obtain ⟨v, en, R'⟩ := r
  dsimp only at cA ⊢
  go_enter Tryd.func21, Tryd.ntmps21
  go_upto_region 1 with fail
  refine wp_region_lx (fun w' => w'.heap[b]? = some (.cells #[.pointer (some ⟨q, 0, none⟩)] 23 (0, 0)) ∧ w'.heap[b + 1]? = some (.cells #[.string s] 9 (0, 0))) [] 5 (by kernel_rfl) (by kernel_rfl) ?_
  rw [show (w.alloc (.cells #[.string ⟨#[]⟩, .bool false, .string ⟨#[]⟩, .slice none 0 0, .int .i64 0, .int .u64 0, .int .i64 0, .int .u64 0] 47)).drew = W from HW.out]
  refine lx_r 0 (.pointer (some ⟨q, 0, none⟩)) HS0 ?_ (hv := fun w' hS => by have p := cell_one hS.1; first | (go_simp; rfl) | go_simp); simp only [lxa, lxb, lxc]
  refine lx_r 1 (.string s) HS0 ?_ (hv := fun w' hS => by have p := cell_one hS.2; first | (go_simp; rfl) | go_simp); simp only [lxa, lxb, lxc]
  refine lx_one 2 (by kernel_rfl) (stepT_call 16 ?c2 rfl rfl rfl ?d2 ?_)
  case d2 => first | (go_simp; rfl) | go_simp
  refine cl.mono ?_
  rintro e w1 ⟨rfl, hb1⟩
  have HS1 : w1.heap[b]? = some (.cells #[.pointer (some ⟨q, 0, none⟩)] 23 (0, 0)) ∧ w1.heap[b + 1]? = some (.cells #[.string s] 9 (0, 0)) := ⟨box_below HS0.1 hb1, box_below HS0.2 hb1⟩
  refine ⟨_, rfl, fun _ => HS1, ?_⟩
  simp only [lxa, lxb, lxc]
  have hR1 := HR.out.1.below hb1
  have hz1 := box_below HR.out.2.2.1 hb1
  have k1 : Keep (fun j => j = q ∨ j = mb) w w1 := (Keep.ofBelow HR.out.2.1).trans (Keep.ofBelow hb1)
  have hbs := HR.out.2.2.2
  by_cases hen : en = 0
  ·subst hen
   refine lx_one 3 (by kernel_rfl) (stepT_call 22 ?c4 rfl rfl rfl ?d4 ?_)
   case d4 => first | (go_simp; rfl) | go_simp
   refine (cA.out w1 hR1).mono ?_
   rintro e w2 ⟨hg, hr2, k2⟩
   have he := hg.elim (fun k => k.2) (fun k => absurd rfl k.1)
   subst he
   have HS2 : w2.heap[b]? = some (.cells #[.pointer (some ⟨q, 0, none⟩)] 23 (0, 0)) ∧ w2.heap[b + 1]? = some (.cells #[.string s] 9 (0, 0)) := ⟨box_keep HS1.1 k2 (by omega), box_keep HS1.2 k2 (by omega)⟩
   refine ⟨_, rfl, fun _ => HS2, ?_⟩
   simp only [lxa, lxb, lxc]
   have hz2 := box_keep hz1 k2 (by omega)
   have k3 := rowK w2 w.heap.size (enc v)
   have HS3 : (w2.setRow w.heap.size (enc v)).heap[b]? = some (.cells #[.pointer (some ⟨q, 0, none⟩)] 23 (0, 0)) ∧ (w2.setRow w.heap.size (enc v)).heap[b + 1]? = some (.cells #[.string s] 9 (0, 0)) := ⟨box_keep HS2.1 k3 (by omega), box_keep HS2.2 k3 (by omega)⟩
   refine lx_one 4 (by kernel_rfl) (stepT_store (w' := w2.setRow w.heap.size (enc v)) rfl rfl rfl ?d5 (fun _ => HS3) ?_)
   case d5 => exact exec_store_row 47 (.tmp 2) (.tmp 6) rfl w.heap.size (enc v) _ rfl rfl hz2 (by rw [infoEntry]; rfl) (by rfl) (enc_one _)
   refine lx_nil (by kernel_rfl) ?_
   have a1 : RA (w2.setRow w.heap.size (enc v)) q mb R' := hr2.keep k3 (by omega) (by omega)
   have a2 := setRow_heap w2 w.heap.size _ (enc v) 47 (0, 0) hz2
   have a3 : Keep (fun j => j = q ∨ j = mb) w (w2.setRow w.heap.size (enc v)) := (k1.trans k2).andThen k3 (fun i h1 h2 => by omega)
   have hld := run_loadVar_row _ w.heap.size 47 47 _ (0, 0) _ a2 Tryd.underlying47 rfl (by rw [infoEntry]; rfl)
   go_wp2
   first | exact bodyPost_ret (res_row rfl _ _ _ _ rfl hld) rfl ⟨gv_ok rfl, a1, a3⟩ | exact bodyPost_end (res_row rfl _ _ _ _ rfl hld) rfl ⟨gv_ok rfl, a1, a3⟩
  ·refine lx_one 3 (by kernel_rfl) (stepT_callP 22 ?c4 rfl rfl rfl ?d4 ?_)
   case d4 => first | (go_simp; rfl) | go_simp
   refine (cA.out w1 hR1).mono ?_
   rintro e w2 ⟨hg, hr2, k2⟩
   have he := hg.elim (fun k => absurd k.1 hen) (fun k => k.2)
   subst he
   exact Or.inr ⟨_, rfl, rfl, gv_no hen rfl, hr2, k1.trans k2⟩
 ·rw [if_neg h0]
  have cl : Calls Tryd.prog 16 #[.string s] W fun e w' => e = .panicked (gaveR n) ∧ Below W.heap.size W w' := cLW.mono (fun e w' hh => ⟨hh.1.elim (fun k => absurd k.1 h0) (fun k => k.2), hh.2⟩)
  clear cLW
  go_enter Tryd.func21, Tryd.ntmps21
  go_upto_region 1 with fail
  refine wp_region_lx (fun w' => w'.heap[b]? = some (.cells #[.pointer (some ⟨q, 0, none⟩)] 23 (0, 0)) ∧ w'.heap[b + 1]? = some (.cells #[.string s] 9 (0, 0))) [] 5 (by kernel_rfl) (by kernel_rfl) ?_
  rw [show (w.alloc (.cells #[.string ⟨#[]⟩, .bool false, .string ⟨#[]⟩, .slice none 0 0, .int .i64 0, .int .u64 0, .int .i64 0, .int .u64 0] 47)).drew = W from HW.out]
  refine lx_r 0 (.pointer (some ⟨q, 0, none⟩)) HS0 ?_ (hv := fun w' hS => by have p := cell_one hS.1; first | (go_simp; rfl) | go_simp); simp only [lxa, lxb, lxc]
  refine lx_r 1 (.string s) HS0 ?_ (hv := fun w' hS => by have p := cell_one hS.2; first | (go_simp; rfl) | go_simp); simp only [lxa, lxb, lxc]
  refine lx_one 2 (by kernel_rfl) (stepT_callP 16 ?e2 rfl rfl rfl ?f2 ?_)
  case f2 => first | (go_simp; rfl) | go_simp
  refine cl.mono ?_
  rintro e w1 ⟨rfl, hb1⟩
  exact Or.inr ⟨_, rfl, rfl, gv_no h0 rfl, HR.out.1.below hb1, (Keep.ofBelow HR.out.2.1).trans (Keep.ofBelow hb1)⟩
theorem getP_no (R : Ro) (c : ByteArray) (h : (getP R c).2.1 ≠ 0) : (getP R c).1 = en0 ⟨#[]⟩ := by
 unfold getP at h ⊢
 split
 ·rename_i h1
  rw [if_pos h1] at h
  exact absurd rfl h
 ·rfl
theorem getS_no (R : Ro) (s : ByteArray) (h : (getS R s).2.1 ≠ 0) : (getS R s).1 = en0 ⟨#[]⟩ := by
 unfold getS at h ⊢
 split
 ·rename_i h1
  rw [if_pos h1] at h
  exact getP_no R _ h
 ·rfl
theorem getS_R (R : Ro) (s : ByteArray) : (getS R s).2.2 = R := by unfold getS getP; split <;> (try split) <;> rfl
theorem attGetR (b : Nat) (w : World) (q mb : Nat) (R : Ro) (h : RA w q mb R) (hG : RG R) (s : ByteArray) (hs : s.size ≤ 1000000) (hg0 : ∀ c, (ofE R c).g = (none, 0, 0) ∧ (ofE R c).nm.size ≤ 1000000) (hq : q < b) (hm : mb < b) (hT : Lib.Utf8Tabs 0 1 w) (hp : (prepB s).size ≤ 1000000) (x0 : w.heap[b]? = some (.cells #[.pointer (some ⟨q, 0, none⟩)] 23 (0, 0))) (x1 : w.heap[b + 1]? = some (.cells #[.string s] 9 (0, 0))) :
  Calls Tryd.prog 20 #[.func (.func 21) #[] #[.pointer (some ⟨b, 0, none⟩), .pointer (some ⟨b + 1, 0, none⟩)]] w fun e w' => e = .returned (.tuple #[.agg (enc (getS R s).1), .int .i64 (getS R s).2.1]) ∧ RA w' q mb R ∧ Keep (fun j => j = q ∨ j = mb) w w' := by
 have hbW := below2 w (.cells (enc (en0 ⟨#[]⟩)) 47) (.cells #[.int .i64 0] 28)
 have hbs : b < w.heap.size := (Array.getElem?_eq_some_iff.1 x0).1
 have hno := getS_no R s
 have hRR := getS_R R s
 have hc := getC_R b _ q mb R (h.below hbW) hG s hs hg0 hq hm (tabs_bel hT hbW) hp (box_below x0 hbW) (box_below x1 hbW)
 generalize getS R s = r at hc hno hRR ⊢
 obtain ⟨x, en, R'⟩ := r
 dsimp only at hRR
 subst hRR
 refine (attemptE 21 _ en x (fun j => j = q ∨ j = mb) (fun w' => RA w' q mb R') w (fun args w => by kernel_rfl) (fun i hi => by omega) hc).mono ?_
 rintro e w' ⟨rfl, w1, hr, k1, k2⟩
 refine ⟨?_, hr.keep k2 (by omega) (by omega), k1.andThen k2 (fun i h1 h2 => by omega)⟩
 by_cases h0 : en = 0
 ·rw [if_pos h0]
 ·rw [if_neg h0]
  have e1 : x = _ := hno h0
  rw [e1]
set_option maxHeartbeats 800000 in
theorem Get_R (w : World) (q mb : Nat) (R : Ro) (h : RA w q mb R) (hG : RG R) (s : ByteArray) (hs : s.size ≤ 1000000) (hg0 : ∀ c, (ofE R c).g = (none, 0, 0) ∧ (ofE R c).nm.size ≤ 1000000) (hT : Lib.Utf8Tabs 0 1 w) (hp : (prepB s).size ≤ 1000000) :
  Calls Tryd.prog 8 #[.pointer (some ⟨q, 0, none⟩), .string s] w fun e w' => e = .returned (.tuple #[env (getS R s).1, .bool ((((getS R s).2.1 : Nat) : Int) == 0)]) ∧ RA w' q mb R ∧ Keep (fun j => j = q ∨ j = mb) w w' := by
 have hmf : ∀ (fn : Fn) (first cap : Array Value) (w : World), (Instr.makeFunc fn first cap).run Tryd.prog w = .ok (.func fn first cap) w := fun _ _ _ _ => rfl
 have hb : Below w.heap.size w (((w.alloc (.cells #[.pointer (some ⟨q, 0, none⟩)] 23)).alloc (.cells #[.string s] 9)).alloc (.cells #[.string ⟨#[]⟩, .bool false, .string ⟨#[]⟩, .slice none 0 0, .int .i64 0, .int .u64 0, .int .i64 0, .int .u64 0] 47)) := ((((Below.refl _ _).alloc (Nat.le_refl _) _).alloc (by simp) _).alloc (by simp; omega) _)
 have hz : EnAt (((w.alloc (.cells #[.pointer (some ⟨q, 0, none⟩)] 23)).alloc (.cells #[.string s] 9)).alloc (.cells #[.string ⟨#[]⟩, .bool false, .string ⟨#[]⟩, .slice none 0 0, .int .i64 0, .int .u64 0, .int .i64 0, .int .u64 0] 47)) (w.heap.size + 2) (en0 ⟨#[]⟩) := push_at _ _ (by simp)
 have hq := h.lt
 have hm := h.map.lt
 have hc := attGetR w.heap.size _ q mb R (h.below hb) hG s hs hg0 hq hm (tabs_bel hT hb) hp (push_old (push_old (push_at _ _ rfl))) (push_old (push_at _ _ (by simp)))
 generalize getS R s = r at hc ⊢
 obtain ⟨x, en, R'⟩ := r
 dsimp only at hc ⊢
 have HB : Hid (Below w.heap.size w _ ∧ EnAt _ _ _) := ⟨hb, hz⟩
 have HL : Hid (q < w.heap.size ∧ mb < w.heap.size) := ⟨hq, hm⟩
 clear h hT hb hq hm hp hz hg0 R'
 obtain ⟨V, HV⟩ : ∃ V, Hid (env x = V) := ⟨_, rfl⟩
 rw [HV.out]
 unfold enc gsv at hc
 go_enter Tryd.func8, Tryd.ntmps8
 go_upto_region 2 with (first
  | (go_at_call 20; refine hc.mono ?_; clear hc; rintro e w4 ⟨rfl, hr4, k4⟩; have z4 := box_keep HB.out.2 k4 (by have := HL.out; omega)))
 have A1 : Hid (EnAt (w4.alloc (.cells (enc x) 47)) w4.heap.size x ∧ EnAt (w4.alloc (.cells (enc x) 47)) (w.heap.size + 2) (en0 ⟨#[]⟩) ∧ RA (w4.alloc (.cells (enc x) 47)) q mb R ∧ Keep (fun j => j = q ∨ j = mb) w (w4.alloc (.cells (enc x) 47))) :=
  ⟨EnAt.made _ _, EnAt.carry z4 (below1 _ _), hr4.below (below1 _ _), ((Keep.ofBelow HB.out.1).trans k4).trans (Keep.ofBelow (below1 _ _))⟩
 unfold enc gsv at A1
 clear hr4 k4 z4
 obtain ⟨B, HBq⟩ : ∃ B, Hid (w4.heap.size = B) := ⟨_, rfl⟩
 rw [HBq.out] at A1 ⊢
 generalize w4.alloc _ = W at A1 ⊢
 go_wp2_with (first
  | (refine wp_load_en rfl (.tmp 6) rfl B rfl x A1.out.1 ?_)
  | (refine wp_store_en rfl (.tmp 4) (.tmp 13) rfl (w.heap.size + 2) rfl x rfl _ A1.out.2.1 ?_))
 have k5 := rowK W (w.heap.size + 2) (enc x)
 have hld := (A1.out.2.1.set x).load
 rw [HV.out] at hld
 refine bodyPost_ret (resCT rfl _ _ _ _ _ rfl rfl hld) rfl ⟨rfl, A1.out.2.2.1.keep k5 (by have := HL.out; omega) (by have := HL.out; omega), A1.out.2.2.2.andThen k5 (fun i h1 h2 => by omega)⟩
def newR (it ak : Int) : Ro := ⟨it, ak, 0, 0, fun _ => none, [], 0⟩
theorem newR_G (it ak : Int) : RG (newR it ak) := ⟨⟨Int.le_refl _, show (0 : Int) < 9223372036854775807 by decide⟩, show (0 : Nat) < 900000 by decide, ⟨Int.le_refl _, show (0 : Int) < 1000000 by decide⟩, ⟨Int.le_refl _, show (0 : Int) < 9223372036854775807 by decide⟩, fun _ _ h => by cases h⟩
theorem mm_run (w : World) : (Instr.makeMap 73 none).run Tryd.prog w = .ok (.map (some w.heap.size)) (w.alloc (.map #[] 0)) := rfl
set_option maxHeartbeats 800000 in
theorem empty_ok (it ak : Int) (h1 : bnd it = true) (h2 : bnd ak = true) (w : World) :
  Calls Tryd.prog 11 #[.int .i64 it, .int .i64 ak] w fun e w' => e = .returned (.pointer (some ⟨w.heap.size + 1, 0, none⟩)) ∧ RA w' (w.heap.size + 1) w.heap.size (newR it ak) ∧ Below w.heap.size w w' := by
 have c1 := fun w => bound_any it w
 have c2 := fun w => bound_any ak w
 have cD := fun w => demR_ok 1 w
 rw [h1] at c1
 rw [h2] at c2
 clear h1 h2
 have hm := mm_run w
 have t1 : True := trivial
 go_enter Tryd.func11, Tryd.ntmps11
 go_wp2_with (first
  | (clear t1; go_at_call 25; refine (c1 _).mono ?_; clear c1; rintro e w1 ⟨rfl, hw1⟩; replace hw1 := hw1.symm; subst hw1)
  | (go_at_call 25; refine (c2 _).mono ?_; clear c2; rintro e w2 ⟨rfl, hw2⟩; replace hw2 := hw2.symm; subst hw2)
  | (go_at_call 24; refine (cD _).mono ?_; clear cD; rintro e w3 ⟨rfl, hw3⟩; replace hw3 := hw3.symm; subst hw3))
 go_ret
 refine ⟨by simp, ⟨?_, ?_, List.nodup_nil, fun s => by simp [newR]⟩, below2 _ _ _⟩
 ·exact push_at _ _ (by simp)
 ·exact (EMap.made w).keep (S := fun _ => False) (Keep.ofBelow (below1 _ _)) (fun h => h)
theorem newC_ok (b : Nat) (it ak : Int) (h1 : bnd it = true) (h2 : bnd ak = true) (w : World) (x0 : w.heap[b]? = some (.cells #[.int .i64 it] 3 (0, 0))) (x1 : w.heap[b + 1]? = some (.cells #[.int .i64 ak] 3 (0, 0))) :
  Calls Tryd.prog 10 #[.pointer (some ⟨b, 0, none⟩), .pointer (some ⟨b + 1, 0, none⟩)] w fun e w' => e = .returned (.pointer (some ⟨w.heap.size + 1, 0, none⟩)) ∧ RA w' (w.heap.size + 1) w.heap.size (newR it ak) ∧ Below w.heap.size w w' := by
 have cE := empty_ok it ak h1 h2 w
 have p0 := cell_one x0
 have p1 := cell_one x1
 clear x0 x1 h1 h2
 go_enter Tryd.func10, Tryd.ntmps10
 go_wp2_with (first
  | (go_at_call 11; refine cE.mono ?_; clear cE; rintro e w1 ⟨rfl, hr, hb⟩))
 go_ret
 exact ⟨rfl, hr, hb⟩
set_option maxHeartbeats 800000 in
theorem New_ok (it ak : Int) (h1 : bnd it = true) (h2 : bnd ak = true) (w : World) :
  Calls Tryd.prog 4 #[.int .i64 it, .int .i64 ak] w fun e w' => ∃ q mb, e = .returned (.tuple #[.pointer (some ⟨q, 0, none⟩), .int .i64 0]) ∧ RA w' q mb (newR it ak) ∧ w.heap.size ≤ q ∧ w.heap.size ≤ mb ∧ Below w.heap.size w w' := by
 have hmf : ∀ (fn : Fn) (first cap : Array Value) (w : World), (Instr.makeFunc fn first cap).run Tryd.prog w = .ok (.func fn first cap) w := fun _ _ _ _ => rfl
 have hb2 := below2 w (.cells #[.int .i64 it] 3) (.cells #[.int .i64 ak] 3)
 have hs2 : ((w.alloc (.cells #[.int .i64 it] 3)).alloc (.cells #[.int .i64 ak] 3)).heap.size = w.heap.size + 2 := by simp
 have hs3 : (((w.alloc (.cells #[.int .i64 it] 3)).alloc (.cells #[.int .i64 ak] 3)).alloc (.cells #[.int .i64 0] 28)).heap.size = w.heap.size + 3 := by simp
 have hc := newC_ok w.heap.size it ak h1 h2 (((w.alloc (.cells #[.int .i64 it] 3)).alloc (.cells #[.int .i64 ak] 3)).alloc (.cells #[.int .i64 0] 28)) (push_old (push_old (push_at _ _ rfl))) (push_old (push_at _ _ (by simp)))
 rw [hs3] at hc
 have hat : Calls Tryd.prog 9 #[.func (.func 10) #[] #[.pointer (some ⟨w.heap.size, 0, none⟩), .pointer (some ⟨w.heap.size + 1, 0, none⟩)]] ((w.alloc (.cells #[.int .i64 it] 3)).alloc (.cells #[.int .i64 ak] 3)) fun e w' => e = .returned (.tuple #[.pointer (some ⟨w.heap.size + 4, 0, none⟩), .int .i64 0]) ∧ RA w' (w.heap.size + 4) (w.heap.size + 3) (newR it ak) ∧ Below w.heap.size w w' := by
  refine (attemptR 10 _ 0 (w.heap.size + 4) (fun w' => RA w' (w.heap.size + 4) (w.heap.size + 3) (newR it ak)) _ (fun args w => by kernel_rfl) (hc.mono ?_)).mono ?_
  ·rintro e w' ⟨rfl, hr, hb⟩
   exact ⟨gv_ok rfl, hr, by rw [hs2]; exact hb⟩
  ·rintro e w' ⟨rfl, w1, hr, hb, k⟩
   rw [hs2] at hb k
   refine ⟨rfl, hr.keep k (by omega) (by omega), ?_⟩
   exact (hb2.trans (hb.mono (by omega))).trans (k.below (by have := hb2.size; have := hb.size; omega) (fun i hi => by omega))
 have HB : Hid (Below w.heap.size w _) := hb2
 clear hc hs2 hs3 hb2 h1 h2
 go_enter Tryd.func4, Tryd.ntmps4
 go_wp2_with (first
  | (go_at_call 9; refine hat.mono ?_; clear hat; rintro e w1 ⟨rfl, hr, hb⟩))
 go_ret2
 exact ⟨w.heap.size + 4, w.heap.size + 3, rfl, hr, by omega, by omega, hb⟩
end Go.Proofs.YtppdopcghnfapaaDoor

namespace Go.Proofs.YtppdopcghnfapaaDoor
open Go.RowKit Go.Joins
theorem in3_nat {s : Int} (h : in3 s = true) : ∃ o : Nat, o < 3 ∧ s = o := by
 obtain ⟨h1, h2⟩ := Bool.and_eq_true_iff.1 h
 have h1 := of_decide_eq_true h1
 have h2 := of_decide_eq_true h2
 exact ⟨s.toNat, by omega, by omega⟩
end Go.Proofs.YtppdopcghnfapaaDoor
