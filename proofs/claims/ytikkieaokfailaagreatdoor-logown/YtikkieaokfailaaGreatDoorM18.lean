/- Texts of one seat, one behind the other: LoE. -/
import Derived.Test.YtikkieaokfailaaGreatDoorM17
import Derived.Test.YtikkieaokfailaaGreatDoorM16
import Derived.Test.YtikkieaokfailaaGreatDoorM10
import Derived.Test.YtikkieaokfailaaGreatDoorM12
namespace Go.Proofs.YtikkieaokfailaaGreatDoor
open Go.RowKit Go.Joins
structure LoR (W : World) (sb d rd pn lb rl i : Nat) (w : World) : Prop where
 ex : ∃ l k, Sx W.heap.size w sb d rd pn (12 * i) [] (fun _ => False) (.pointer (some ⟨lb, 0, none⟩)) (.pointer (some ⟨rl, 0, none⟩)) l k l k ∧ Po (i + 1) l k
 bl : Below W.heap.size W w
structure LoI (W : World) (sb d rd pn lb rl m : Nat) (l : Lg) (k : Dk) (v1 : Value) (rs : List (List Int)) (j : Nat) (lv : Value) (w : World) : Prop where
 ex : ∃ T Z Z1, Sx W.heap.size w sb d rd pn (m + j) T Z (.pointer (some ⟨lb, 0, none⟩)) (.pointer (some ⟨rl, 0, none⟩)) l k l k ∧ T.length = j ∧ T.map Lt.ys = rs.take j ∧ w.ownsRow 0 29 1 lv j (T.map Lt.v) ∧ (∀ g, lv.ownBlock = some g → Z g ∧ W.heap.size ≤ g) ∧ RcA w Z1 v1 rs ∧ ∀ g, Z1 g → Z g ∧ W.heap.size ≤ g ∧ ¬ lv.ownBlock = some g
 bl : Below W.heap.size W w
theorem rcA_sl {w : World} {H : Nat → Prop} {v : Value} {rs : List (List Int)} (h : RcA w H v rs) : ∃ a c, v = .slice a rs.length c := by
 obtain ⟨⟨vs, ov, _⟩, _⟩ := h
 exact own_sl ov
theorem atL_len {l : Lg} (h : RcS l.recs) (z : Int) : ((atL l z).getD []).length ≤ 100000 := by
 unfold atL
 split
 ·exact Nat.zero_le _
 ·cases e : l.recs[z.toNat]? with
  | none => exact Nat.zero_le _
  | some r => have := h r (List.mem_of_getElem? e); show r.length ≤ _; omega
theorem sk_low {B : Nat} {Z : Nat → Prop} {w w' : World} (hk : Keep (Sk B Z) w w') (hB : B ≤ w.heap.size) : Below B w w' := hk.below hB fun _ h => h.1
set_option maxRecDepth 100000 in
set_option maxHeartbeats 8000000 in
theorem logOwn_any (a : Option Addr) (n c : Nat) (W : World) (hO : SORd W a n c) (hP : Pw W) :
  Calls Tryz.prog 7 #[.slice a n c] W fun e w' => e = .returned (.bool true) ∧ Below W.heap.size W w' := by
 have HO : Hid (SORd W a n c) := hO
 have hZ : (n : Int) ≤ 9223372036854775807 := by have := hO.cap; have := hO.most; omega
 have hfr := fresh_any 8000 (by omega) 100 W hP hP.at
 obtain ⟨l0, k0, he, hPo⟩ := own_open
 rw [he] at hfr
 dsimp only at hfr
 clear hO hP he
 go_enter Tryz.func7, Tryz.ntmps7
 go_upto_region 4 with (first
  | (go_at_call 9; refine hfr.mono ?_; clear hfr; rintro e w1 ⟨sb, d, rd, rfl, hS1, hb1⟩; have hw := swakes_any w1 hS1.pw)
  | (go_at_call 11; refine hw.mono ?_; clear hw; rintro e w2 ⟨rfl, hb2⟩))
 have hB2 : Below W.heap.size W w2 := hb1.trans (hb2.mono hb1.size)
 obtain ⟨pl, pr, hX⟩ := (hS1.below hb2).sx hB2.size
 obtain ⟨V, hV⟩ : ∃ V, (w2.alloc (.cells #[.slice none 0 0, .slice none 0 0] 73)).alloc (.cells #[.slice none 0 0, .slice none 0 0, .slice none 0 0, .slice none 0 0, .int .i64 0] 76) = V := ⟨_, rfl⟩
 have hbV : Below W.heap.size W V := by rw [← hV]; exact (hB2.alloc hB2.size _).alloc (by have := hB2.size; simp; omega) _
 rw [hV] at hX
 obtain ⟨_, _, lb, rfl, _⟩ := hX.log
 obtain ⟨_, _, rl, rfl, _⟩ := hX.rlog
 have HR0 : Hid (LoR W sb d rd w2.heap.size lb rl 0 V) := ⟨⟨l0, k0, hX, hPo⟩, hbV⟩
 clear hX hPo hS1 hb1 hb2 hB2 hbV
 go_wp2_with fail
 clear hV
 generalize w2.heap.size = pn at *
 go_loopg [7] 60 (fun kx s7 wr => ∃ i : Nat, s7 = .int .i64 i ∧ i + kx = 60 ∧ Hid (LoR W sb d rd pn lb rl i wr))
 case atStart => exact ⟨0, rfl, rfl, HR0⟩
 case round =>
  clear HR0
  obtain ⟨i, rfl, hik, HR⟩ := hrel
  obtain ⟨ko, hko⟩ : ∃ ko, ko = gk := ⟨_, rfl⟩
  by_cases h1 : i < n ∧ i < 60
  ·obtain ⟨h1, h2⟩ := h1
   have h1z : (i : Int) < (n : Int) := by omega
   have h2z : (i : Int) < 60 := by omega
   obtain ⟨b, off, rfl, hce⟩ := HO.out.flat (by omega)
   obtain ⟨Do, ar, nr, cr, xs, al, nl, cl, ls, Nn, ak, nk, ck, zs, hop⟩ := hce i h1
   clear hce
   have hat : ∀ w', Below W.heap.size W w' → SOpAt w' b (off + i * 5) Do ar nr cr xs al nl cl ls Nn ak nk ck zs := fun w' hb => hop.below hb
   clear hop
   obtain ⟨l, k, hS, hPo⟩ := HR.out.ex
   have hbl := HR.out.bl
   have c0 := (hat wr hbl).c0
   by_cases hdo : Do = 4
   ·subst hdo
    have c2 := (hat wr hbl).c2
    have htw := twins_any al nl cl ls wr (hat wr hbl).hL
    go_upto_region 12 with (first
     | (go_at_call 28; refine htw.mono ?_; clear htw; rintro e w1 ⟨v1, rfl, hA1, hf1⟩))
    have hS1 := hS.more (S := fun _ => False) (Keep.ofBelow hf1) (fun _ e => e.elim)
    have hb1 := hbl.trans (hf1.mono hbl.size)
    have hsz := hbl.size
    have htl := tw_len ls
    have htr := tw_rl ls
    obtain ⟨a1, cc1, rfl⟩ := rcA_sl hA1
    obtain ⟨rs, Hrs⟩ : ∃ rs, Hid (tw ls = rs) := ⟨_, rfl⟩
    rw [Hrs.out] at hA1 htl htr ⊢
    obtain ⟨N, HN⟩ : ∃ N, Hid (rs.length = N) := ⟨_, rfl⟩
    have HI0 : Hid (LoI W sb d rd pn lb rl (12 * i) l k (.slice a1 rs.length cc1) rs 0 (.slice none 0 0) w1) :=
     ⟨⟨[], _, _, hS1, rfl, rfl, World.ownsRow_nil _ _ _ _, fun g h9 => (by cases h9), hA1, fun g hg => ⟨Or.inr hg, (by omega), fun h9 => (by cases h9)⟩⟩, hb1⟩
    have hPL := hPo.lg
    rw [HN.out] at htl HI0 ⊢
    clear hS1 hA1 hf1 hS c0 c2 hb1 hbl
    go_upto_region 13 with fail
    go_loopg [8, 10] N (fun kx s8 s10 wr => ∃ j : Nat, s10 = .int .i64 j ∧ j + kx = N ∧ Hid (LoI W sb d rd pn lb rl (12 * i) l k (.slice a1 N cc1) rs j s8 wr))
    case atStart => exact ⟨0, rfl, by omega, HI0⟩
    case round =>
     clear HI0
     obtain ⟨j, rfl, hjk, HJ⟩ := hrel
     obtain ⟨T, Z, Z1, hS, hTl, hTy, ov, hvz, hRc, hz1⟩ := HJ.out.ex
     have hbl := HJ.out.bl
     have hjN : j ≤ N := by omega
     by_cases hlt : j < N
     ·have hcl : (j : Int) < (N : Int) := by omega
      obtain ⟨b1, off1, rfl, hce⟩ := (hRc.rrd HN.out (by omega)).flat (by omega)
      obtain ⟨aj, nj, cj, hcj, hrj⟩ := hce j hlt
      clear hce
      have hnj : nj ≤ 200 := by
       have := hrj.len
       have := htr (rs.getD j []) (by rw [List.getD_eq_getElem?_getD, List.getElem?_eq_getElem (by rw [HN.out]; exact hlt)]; exact List.getElem_mem _)
       omega
      obtain ⟨av, cv, hv⟩ := own_sl ov
      subst hv
      have hle := hS.lend (by omega) aj nj cj _ hrj (by omega)
      have HTy : Hid (T.map Lt.ys = rs.take j) := hTy
      clear hTy hrj
      go_wp2_with (first
       | (go_at_call 31; refine hle.mono ?_; clear hle; rintro e w5 ⟨g5, cap5, rfl, hS5, hk5⟩; have ov5 := own_keep ov hk5 (fun g hg hs => hs.2 (hvz g hg).1))
       | (at_builtin; refine wp_appRow rfl (.tmp 59) (.tmp 66) rfl 0 (.slice av j cv) j (T.map Lt.v) rfl ov5 (some ⟨g5, 0, none⟩) nj cap5 rfl (by omega) (Nat.zero_le _) ?_; intro v6 w6 o6 hk6 hwh6; obtain ⟨a6, c6, rfl⟩ := own_sl o6))
      go_roundg (gk - 1)
      case measure => omega
      case rel =>
       have h5s := hk5.size
       have hb5 := hbl.trans (sk_low hk5 hbl.size)
       have hb6 := hb5.trans (hk6.low hb5.size (fun g hg => (hvz g hg).2))
       have hRc6 := (hRc.keep hk5 (fun g hg hs => hs.2 (hz1 g hg).1) (fun _ h => h)).keep hk6 (fun g hg e => (hz1 g hg).2.2 e) (fun _ h => h)
       have hzl : ∀ g, Z g → g < w5.heap.size := fun g hg => hS5.zlt hg
       have hty : (T ++ [(⟨g5, nj, cap5, rs.getD j []⟩ : Lt)]).map Lt.ys = rs.take (j + 1) := by
        rw [List.map_append, HTy.out, List.take_add_one, List.getD_eq_getElem?_getD, List.getElem?_eq_getElem (by rw [HN.out]; exact hlt)]
        rfl
       refine ⟨j + 1, by go_num, by omega, ⟨_, _, Z1, hS5.more hk6 hvz, by rw [List.length_append, hTl]; rfl, hty, by rw [List.map_append]; exact o6, fun g hg => ?_, hRc6, fun g hg => ⟨Or.inl (hz1 g hg).1, (hz1 g hg).2.1, fun e => ?_⟩⟩, hb6⟩
       ·rcases hwh6 with h9 | ⟨g9, h9, h10⟩
        ·have := hvz g (by rw [← h9]; exact hg)
         exact ⟨Or.inl this.1, this.2⟩
        ·rw [h9] at hg
         injection hg with hg
         subst hg
         obtain ⟨cur, e⟩ := own_blkT o6 h9
         exact ⟨Or.inr ⟨by omega, (Array.getElem?_eq_some_iff.1 e).1⟩, by have := hb5.size; omega⟩
       ·rcases hwh6 with h9 | ⟨g9, h9, h10⟩
        ·exact (hz1 g hg).2.2 (by rw [← h9]; exact e)
        ·rw [h9] at e
         injection e with e
         subst e
         have := hzl _ (hz1 _ hg).1
         omega
     ·have hcl : ¬ (j : Int) < (N : Int) := by omega
      obtain rfl : j = N := by omega
      obtain ⟨av, cv, hv⟩ := own_sl ov
      subst hv
      rw [List.take_of_length_le (by rw [HN.out]; exact Nat.le_refl _)] at hTy
      obtain ⟨hrr, hrn⟩ := hS.rrd ov hTy hTl (by omega)
      obtain ⟨F, H, lb1, e1, hL, hlt1, go1⟩ := hS.log
      injection e1 with e1; injection e1 with e1; injection e1 with e1; subst e1
      have hst := hPo.st
      have hfl := hPo.fl
      have hcn := hPL.cnt
      have hmo := hPL.most
      have q1 : wr.cell? ⟨sb, 1, none⟩ = some (.pointer (some ⟨lb, 0, none⟩)) := by rw [cell_of_block hS.blk]; rfl
      have hreb := srebase_any wr F H lb d l k hL hPL.g (by omega) (by omega) av j cv rs hrr (hrn _ (fun t ht e => by
       rcases e with e | e | e
       ·exact (hlt1 _ (Or.inl e)).2.2.2 t ht rfl
       ·exact (hlt1 _ (Or.inr (Or.inr e))).2.2.2 t ht rfl
       ·have := hS.tlt ht; omega) (fun g hg e => by
       have hz := hvz g hg
       rcases e with e | e | e
       ·exact (hlt1 _ (Or.inl e)).2.2.1 hz.1
       ·exact (hlt1 _ (Or.inr (Or.inr e))).2.2.1 hz.1
       ·have := hS.zlt hz.1; omega)) (by omega) (by omega) (by omega)
      clear hrn hrr
      go_upto_region 17 with (first
       | (go_at_call 29; refine hreb.mono ?_; clear hreb; rintro e w2 ⟨rfl, hp1⟩))
      obtain ⟨hS2, hk2⟩ := go1 _ _ _ hp1
      clear go1 hp1 hlt1 hL q1
      have hRc2 := hRc.keep hk2 (fun g hg hs => hs.2 (hz1 g hg).1) (fun _ h => h)
      have hbl2 := hbl.trans (sk_low hk2 hbl.size)
      obtain ⟨G, H2, rl1, e1, hRL, hlt2, go2⟩ := hS2.rlog
      injection e1 with e1; injection e1 with e1; injection e1 with e1; subst e1
      have q3 : w2.cell? ⟨sb, 3, none⟩ = some (.pointer (some ⟨rl, 0, none⟩)) := by rw [cell_of_block hS2.blk]; rfl
      have hrreb := rrebase_any w2 G H2 rl rd l k hRL hPL.g (by omega) (by omega) a1 j cc1 rs (hRc2.rrd HN.out (by omega)) (hRc2.rnot (S := fun i => G i ∨ i = rl) HN.out (fun g hg e => by
       have hz := (hz1 g hg).1
       rcases e with e | e
       ·exact (hlt2 _ (Or.inl e)).2.2.1 hz
       ·exact (hlt2 _ (Or.inr (Or.inr e))).2.2.1 hz)) (by omega) (by omega) (by omega)
      go_upto_region 20 with (first
       | (go_at_call 32; refine hrreb.mono ?_; clear hrreb; rintro e w3 ⟨rfl, hp2⟩))
      obtain ⟨hS3, hk3⟩ := go2 _ _ _ hp2
      clear go2 hp2 hlt2 hRL q3
      have hbl3 := hbl2.trans (sk_low hk3 hbl2.size)
      have hPo3 := hPo.rebase (by omega) hS.hr rs htr (by rw [HN.out]; omega)
      clear hRc hRc2 hS hS2 hk2 hk3 hbl hbl2 hz1 hvz ov hTy hPo hPL hst hfl hcn hmo
      generalize (rebaseT l k rs).2.2 = k2 at *
      generalize (rebaseT l k rs).2.1 = l2 at *
      have hSt := (hS3.zed (Z' := fun _ => False) (fun _ h => h.elim)).up (m' := 12 * (i + 1)) (by omega)
      obtain ⟨F9, H9, lb9, e9, hL9, _, _⟩ := hSt.log
      injection e9 with e9; injection e9 with e9; injection e9 with e9; subst e9
      have q9 : w3.cell? ⟨sb, 1, none⟩ = some (.pointer (some ⟨lb, 0, none⟩)) := by rw [cell_of_block hSt.blk]; rfl
      have hsa := sat_any w3 F9 H9 lb d _ _ ((i : Int) % 5) (by omega) hL9 (fun r hr => by have := hPo3.rc r hr; omega)
      go_upto_region 21 with (first
       | (go_at_call 27; refine hsa.mono ?_; clear hsa; rintro e w7 ⟨u7, rfl, o7, hbd7, hb7⟩))
      have hS7 := hSt.more (S := fun _ => False) (Keep.ofBelow hb7) (fun _ e => e.elim)
      have hbl7 := hbl3.trans (hb7.mono hbl3.size)
      have hln7 : ((atL _ ((i : Int) % 5)).getD []).length ≤ 100000 := atL_len hPo3.rc _
      have htk := hS7.take u7 _ (Ow.ofFrom o7 hbd7) (fun g hg => by have h9 := o7.lt g hg; exact ⟨Or.inr h9, by have := hbl3.size; omega⟩) hln7
      go_wp2_with (first
       | (go_at_call 34; refine htk.mono ?_; clear htk; rintro e w8 ⟨r8, rfl, hS8, hb8⟩))
      have HR8 : Hid (LoR W sb d rd pn lb rl (i + 1) w8) := ⟨⟨_, _, hS8, hPo3⟩, hbl7.trans hb8⟩
      go_roundg (ko - 1)
      case measure => omega
      case rel => exact ⟨i + 1, by go_num, by omega, HR8⟩
   ·have hdn : ¬ Do = 4 := hdo
    have hok := hPo.lg.ok (by omega)
    have hst := hPo.st
    have hfl := hPo.fl
    have hz0 := hPo.lg.z0
    have hri := hS.hr
    go_upto_region 18 with fail
    refine wp_region_lx (fun w' => w'.cell? ⟨sb, 1, none⟩ = some (.pointer (some ⟨lb, 0, none⟩)) ∧ Below W.heap.size W w') [] 13 (by kernel_rfl) (by kernel_rfl) ?_
    have hS1 := hS.below ((Below.refl wr.heap.size wr).drew)
    have hb1 := hbl.drew
    clear hS hbl c0
    generalize wr.drew = X at *
    have HS : X.cell? ⟨sb, 1, none⟩ = some (.pointer (some ⟨lb, 0, none⟩)) ∧ Below W.heap.size W X := ⟨by rw [cell_of_block hS1.blk]; rfl, hb1⟩
    refine lx_r 0 _ HS ?_; simp only [lxa, lxb, lxc]
    refine lx_r 1 _ HS ?_; simp only [lxa, lxb, lxc]
    refine lx_r 2 _ HS ?_; simp only [lxa, lxb, lxc]
    refine lx_r 3 (.pointer (some ⟨lb, 0, none⟩)) HS ?_ (hv := fun w' hS => by have q := hS.1; first | (go_simp; rfl) | go_simp); simp only [lxa, lxb, lxc]
    refine lx_r 4 _ HS ?_; simp only [lxa, lxb, lxc]
    refine lx_r 5 _ HS ?_; simp only [lxa, lxb, lxc]
    refine lx_r 6 _ HS ?_; simp only [lxa, lxb, lxc]
    refine lx_r 7 (.pointer (some ⟨b, off + i * 5, none⟩)) HS ?_; simp only [lxa, lxb, lxc]
    refine lx_r 8 (.pointer (some ⟨b, off + i * 5 + 1, none⟩)) HS ?_; simp only [lxa, lxb, lxc]
    refine lx_r 9 (.slice ar nr cr) HS ?_ (hv := fun w' hS => by have q := (hat _ hS.2).c1; first | (go_simp; rfl) | go_simp); simp only [lxa, lxb, lxc]
    refine lx_one 10 (by kernel_rfl) (stepT_call 17 ?a10 rfl rfl rfl ?r10 ?_)
    case r10 => first | (go_simp; rfl) | go_simp
    refine (few200O ar nr cr xs X (hat X hb1).hR).mono ?_
    rintro e w2 ⟨a2, n2, c2, rfl, hn2, _, hr2, _, hf2⟩
    have hS2 := hS1.below hf2
    have hb2 := hb1.trans (hf2.mono hb1.size)
    refine ⟨_, rfl, fun _ => ⟨by rw [cell_of_block hS2.blk]; rfl, hb2⟩, ?_⟩
    simp only [lxa, lxb, lxc]
    refine lx_one 11 (by kernel_rfl) (stepT_call 31 ?a11 rfl rfl rfl ?r11 ?_)
    case r11 => first | (go_simp; rfl) | go_simp
    refine (hS2.lend (by omega) a2 n2 c2 (xs.take 200) hr2 (by omega)).mono ?_
    rintro e w3 ⟨g3, cap3, rfl, hS3, hk3⟩
    have hb3 := hb2.trans (sk_low hk3 hb2.size)
    refine ⟨_, rfl, fun _ => ⟨by rw [cell_of_block hS3.blk]; rfl, hb3⟩, ?_⟩
    simp only [lxa, lxb, lxc]
    refine lx_one 12 (by kernel_rfl) (stepT_call 22 ?a12 rfl rfl rfl ?r12 ?_)
    case r12 => first | (go_simp; rfl) | go_simp
    have hmm : (⟨g3, n2, cap3, xs.take 200⟩ : Lt) ∈ [] ++ [(⟨g3, n2, cap3, xs.take 200⟩ : Lt)] := List.mem_append_right _ (List.mem_singleton.2 rfl)
    have hr3 := hS3.tr hmm
    obtain ⟨F, H, lb1, e1, hL, hlt1, go1⟩ := hS3.log
    injection e1 with e1; injection e1 with e1; injection e1 with e1; subst e1
    refine (sappend_any w3 F H lb d l k hL hok (by omega) (by omega) (some ⟨g3, 0, none⟩) n2 cap3 (xs.take 200) hr3 (fun ad e => by
     injection e with e
     subst e
     exact ⟨fun hf => (hlt1 _ (Or.inl hf)).2.2.2 _ hmm rfl, fun hf => (hlt1 _ (Or.inr (Or.inr hf))).2.2.2 _ hmm rfl⟩)).mono ?_
    rintro e w4 ⟨rfl, hp4⟩
    obtain ⟨hS4, hk4⟩ := go1 _ _ _ hp4
    have hb4 := hb3.trans (sk_low hk4 hb3.size)
    refine ⟨_, rfl, fun _ => ⟨by rw [cell_of_block hS4.blk]; rfl, hb4⟩, ?_⟩
    simp only [lxa, lxb, lxc]
    refine lx_nil (by kernel_rfl) ?_
    clear HS hS1 hb1 hf2 hr2 hS2 hb2 hk3 hb3 hr3 hlt1 go1 hL hp4 hk4 hS3
    go_upto_region 19 with fail
    refine wp_region_lx (fun w' => w'.cell? ⟨sb, 3, none⟩ = some (.pointer (some ⟨rl, 0, none⟩)) ∧ Below W.heap.size W w') [] 11 (by kernel_rfl) (by kernel_rfl) ?_
    have hS5 := hS4.below ((Below.refl w4.heap.size w4).drew)
    have hb5 := hb4.drew
    clear hS4 hb4
    generalize w4.drew = X2 at *
    have HS5 : X2.cell? ⟨sb, 3, none⟩ = some (.pointer (some ⟨rl, 0, none⟩)) ∧ Below W.heap.size W X2 := ⟨by rw [cell_of_block hS5.blk]; rfl, hb5⟩
    refine lx_r 0 _ HS5 ?_; simp only [lxa, lxb, lxc]
    refine lx_r 1 _ HS5 ?_; simp only [lxa, lxb, lxc]
    refine lx_r 2 _ HS5 ?_; simp only [lxa, lxb, lxc]
    refine lx_r 3 (.pointer (some ⟨rl, 0, none⟩)) HS5 ?_ (hv := fun w' hS => by have q := hS.1; first | (go_simp; rfl) | go_simp); simp only [lxa, lxb, lxc]
    refine lx_r 4 _ HS5 ?_; simp only [lxa, lxb, lxc]
    refine lx_r 5 _ HS5 ?_; simp only [lxa, lxb, lxc]
    refine lx_r 6 (.pointer (some ⟨b, off + i * 5, none⟩)) HS5 ?_; simp only [lxa, lxb, lxc]
    refine lx_r 7 (.pointer (some ⟨b, off + i * 5 + 1, none⟩)) HS5 ?_; simp only [lxa, lxb, lxc]
    refine lx_r 8 (.slice ar nr cr) HS5 ?_ (hv := fun w' hS => by have q := (hat _ hS.2).c1; first | (go_simp; rfl) | go_simp); simp only [lxa, lxb, lxc]
    refine lx_one 9 (by kernel_rfl) (stepT_call 17 ?b9 rfl rfl rfl ?s9 ?_)
    case s9 => first | (go_simp; rfl) | go_simp
    refine (few200O ar nr cr xs X2 (hat X2 hb5).hR).mono ?_
    rintro e w6 ⟨a6, n6, c6, rfl, hn6, _, hr6, ha6, hf6⟩
    have hS6 := hS5.below hf6
    have hb6 := hb5.trans (hf6.mono hb5.size)
    refine ⟨_, rfl, fun _ => ⟨by rw [cell_of_block hS6.blk]; rfl, hb6⟩, ?_⟩
    simp only [lxa, lxb, lxc]
    refine lx_one 10 (by kernel_rfl) (stepT_call 33 ?b10 rfl rfl rfl ?s10 ?_)
    case s10 => first | (go_simp; rfl) | go_simp
    obtain ⟨G, H2, rl1, e1, hRL, hlt2, go2⟩ := hS5.rlog
    injection e1 with e1; injection e1 with e1; injection e1 with e1; subst e1
    refine (rappend_any w6 G H2 rl rd l k (hRL.below hf6) hok hz0 (by omega) (by omega) a6 n6 c6 (xs.take 200) hr6 (fun ad e => ⟨fun hf => by have := (hlt2 _ (Or.inl hf)).2.1; have := ha6 ad e; omega, fun hf => by have := (hlt2 _ (Or.inr (Or.inr hf))).2.1; have := ha6 ad e; omega⟩)).mono ?_
    rintro e w7 ⟨rfl, hp7⟩
    obtain ⟨hS7, hk7⟩ := go2 _ _ _ (Rgp.from hf6 hp7)
    have hb7 := hb5.trans (sk_low hk7 hb5.size)
    have hPo7 := hPo.append hri (xs.take 200) (by rw [List.length_take]; omega)
    refine ⟨_, rfl, fun _ => ⟨by rw [cell_of_block hS7.blk]; rfl, hb7⟩, ?_⟩
    simp only [lxa, lxb, lxc]
    refine lx_nil (by kernel_rfl) ?_
    clear HS5 hS5 hb5 hf6 hr6 ha6 hS6 hb6 hlt2 go2 hRL hp7 hk7 hPo hok hst hfl hz0
    generalize (appendT l k (xs.take 200)).2.2 = k2 at *
    generalize (appendT l k (xs.take 200)).2.1 = l2 at *
    have hSt := (hS7.zed (Z' := fun _ => False) (fun _ h => h.elim)).up (m' := 12 * (i + 1)) (by omega)
    obtain ⟨F9, H9, lb9, e9, hL9, _, _⟩ := hSt.log
    injection e9 with e9; injection e9 with e9; injection e9 with e9; subst e9
    have q9 : w7.cell? ⟨sb, 1, none⟩ = some (.pointer (some ⟨lb, 0, none⟩)) := by rw [cell_of_block hSt.blk]; rfl
    have hsa := sat_any w7 F9 H9 lb d _ _ ((i : Int) % 5) (by omega) hL9 (fun r hr => by have := hPo7.rc r hr; omega)
    go_upto_region 21 with (first
     | (go_at_call 27; refine hsa.mono ?_; clear hsa; rintro e w9 ⟨u7, rfl, o7, hbd7, hf7⟩))
    have hS9 := hSt.more (S := fun _ => False) (Keep.ofBelow hf7) (fun _ e => e.elim)
    have hbl7 := hb7.trans (hf7.mono hb7.size)
    have hln7 : ((atL _ ((i : Int) % 5)).getD []).length ≤ 100000 := atL_len hPo7.rc _
    have htk := hS9.take u7 _ (Ow.ofFrom o7 hbd7) (fun g hg => by have h9 := o7.lt g hg; exact ⟨Or.inr h9, by have := hb7.size; omega⟩) hln7
    go_wp2_with (first
     | (go_at_call 34; refine htk.mono ?_; clear htk; rintro e w8 ⟨r8, rfl, hS8, hb8⟩))
    have HR8 : Hid (LoR W sb d rd pn lb rl (i + 1) w8) := ⟨⟨_, _, hS8, hPo7⟩, hbl7.trans hb8⟩
    go_roundg (ko - 1)
    case measure => omega
    case rel => exact ⟨i + 1, by go_num, by omega, HR8⟩
  ·have hj : Hid (∃ j, LoR W sb d rd pn lb rl j wr ∧ j ≤ 60) := ⟨i, HR.out, by omega⟩
   have h2z : (i : Int) < (n : Int) → ¬ (i : Int) < 60 := by omega
   obtain ⟨j, hLR, hj⟩ := hj.out
   obtain ⟨l, k, hS, hPo⟩ := hLR.ex
   have hbl := hLR.bl
   have hbk := hS.back (by omega)
   have hfl := hPo.fl
   have hrc := hPo.rc
   have hrn := hPo.lg.recs
   clear hLR hS hPo HR
   by_cases h1z : (i : Int) < (n : Int)
   all_goals first | (replace h2z := h2z h1z) | clear h2z
   all_goals clear hik h1
   all_goals
    go_wp2_with (first
     | (go_at_call 35; refine hbk.mono ?_; clear hbk; rintro e w4 ⟨rfl, hb4, Q, fv, wv, fs, ws, ys, Nb, hBook, hBF, hgo⟩)
     | (go_at_call 36; refine (bookClose_any (pn + 1) Nb fv wv fs ws ys w4 hBook).mono ?_; rintro e w5 ⟨rfl, hk5⟩; obtain ⟨hSd, hb5⟩ := hgo w5 (hk5.mono hBF); have hss := sideSame_any W.heap.size sb d rd w5 (some l) k hSd (by omega) (fun l' e => by injection e with e; subst e; exact ⟨by omega, fun r hr => by have := hrc r hr; omega⟩))
     | (go_at_call 13; refine hss.mono ?_; clear hss; rintro e w6 ⟨rfl, hb6⟩))
    go_ret
    exact ⟨rfl, ((hbl.trans hb4).trans hb5).trans (hb6.mono ((hbl.trans hb4).trans hb5).size)⟩
end Go.Proofs.YtikkieaokfailaaGreatDoor
