/- Texts of one seat, one behind the other: RlJ, LoE. -/
import Derived.Test.YtikkieaokfailaaGreatDoorM10
import Derived.Test.YtikkieaokfailaaGreatDoorM14
import Derived.BigQuiet
namespace Go.Proofs.YtikkieaokfailaaGreatDoor
open Go.RowKit Go.Joins
theorem drop_head {rs : List (List Int)} {j : Nat} (h : j < rs.length) : rs.drop j = rs.getD j [] :: rs.drop (j + 1) := by
 rw [List.drop_eq_getElem_cons h, List.getD_eq_getElem?_getD, List.getElem?_eq_getElem h]
 rfl
theorem take_next {rs : List (List Int)} {j : Nat} (h : j < rs.length) : rs.take (j + 1) = rs.take j ++ [rs.getD j []] := by
 rw [List.take_add_one, List.getElem?_eq_getElem h, List.getD_eq_getElem?_getD, List.getElem?_eq_getElem h]
 rfl
theorem ren_gr (k : Dk) (s t : Nm) : (renameK k s t).2.steps ≤ k.steps + 1 ∧ (renameK k s t).2.fs.length ≤ k.fs.length + 1 := by
 unfold renameK stepK
 have h1 := pass_steps k
 have h2 := pass_fs k
 split
 ·exact ⟨Nat.le_succ _, Nat.le_succ _⟩
 ·split
  ·exact ⟨Nat.le_succ _, Nat.le_succ _⟩
  ·split
   ·exact ⟨Nat.le_succ _, Nat.le_succ _⟩
   ·split
    ·exact ⟨Nat.le_succ _, Nat.le_succ _⟩
    ·split
     ·exact ⟨Nat.le_succ _, Nat.le_succ _⟩
     ·split
      ·exact ⟨h1, by rw [h2]; exact Nat.le_succ _⟩
      ·refine ⟨h1, Nat.le_trans (len_put _ _ _) ?_⟩
       have h3 := len_drop (passK k).2.fs s
       rw [h2] at h3 ⊢
       omega
theorem RTwo.start {w X : World} {G H : Nat → Prop} {rl rd : Nat} {l : Lg} {k : Dk} (h : RLogAt w G H rl rd l k) (hd : l.dn = false) (hX : X = (w.drew).alloc (.cells (rlcs rd l.most (.slice none 0 0) ⟨l.ch.g + 1, 0, 0, false⟩ false) 90)) :
  ∃ v, RTwo w G H rl w.heap.size rd l v X G (fun _ => False) false ⟨l.most, [], ⟨l.ch.g + 1, 0, 0, false⟩, false⟩ k := by
 have hb : Below w.heap.size w X := by rw [hX]; exact ((Below.refl _ _).drew).alloc (Nat.le_refl _) _
 have hA := h.below hb
 obtain ⟨v, hD, hR⟩ := hA.ex
 rw [hd] at hD
 have hrl : rl < w.heap.size := by
  obtain ⟨v0, hD0, _⟩ := h.ex
  exact hD0.lt
 have hblk : X.heap[w.heap.size]? = some (.cells (rlcs rd l.most (.slice none 0 0) ⟨l.ch.g + 1, 0, 0, false⟩ false) 90 (0, 0)) := by
  rw [hX]
  exact alloc_at w.drew _
 have hnG : ¬ G w.heap.size := fun hg => by
  obtain ⟨v0, hD0, _⟩ := h.ex
  have := hD0.R.lt _ hg
  omega
 exact ⟨v, hD, hR, ⟨⟨_, ⟨hblk, hD.R, hnG⟩, rcA_nil _ _⟩, (fun _ h => h.elim), (fun h => h), (fun _ h => h.elim)⟩, h.hf, h.hl, by omega, (fun _ h => h.elim), Nat.le_refl _, h.lt, hrl, Keep.ofBelow hb, fun _ hi => Or.inl hi⟩
set_option maxRecDepth 400000 in
set_option maxHeartbeats 16000000 in
theorem rrebase_any (w : World) (G H : Nat → Prop) (rl rd : Nat) (l : Lg) (k : Dk) (h : RLogAt w G H rl rd l k) (hg : l.ch.g < 18446744073709551616) (hcnt : l.ch.cnt ≤ 10000) (hmo : l.most ≤ 1000000000)
  (a : Option Addr) (n cc : Nat) (rs : List (List Int)) (hR : RRd w a n rs) (hnS : RNot w a n (fun i => G i ∨ i = rl)) (hn : n ≤ 10000) (hst : k.steps < 900000) (hfl : k.fs.length < 900000) :
  Calls Tryz.prog 32 #[.pointer (some ⟨rl, 0, none⟩), .slice a n cc] w fun e w' => e = .returned (.int .i64 ((rebaseT l k rs).1 : Int)) ∧ Rgp w G H rl rd (rebaseT l k rs).2.1 (rebaseT l k rs).2.2 w' := by
 have Hn : Hid (rs.length = n) := hR.len
 have hnm := hR.most
 obtain ⟨Q, HQ0⟩ : ∃ Q, Hid (rebaseT l k rs = Q) := ⟨_, rfl⟩
 rw [HQ0.out]
 go_enter Tryz.func32, Tryz.ntmps32
 go_upto_region 2 with fail
 go_loopw [5] (fun s5 wr => ∃ j : Nat, s5 = .int .i64 j ∧ j ≤ n ∧ Hid (∀ i r, i < j → rs[i]? = some r → r.length ≤ 1048576) ∧ wr = w) (fun s5 _ => n - (intOf s5).toNat)
 case atStart => exact ⟨0, rfl, by omega, fun i r hi => by omega, rfl⟩
 case round =>
  obtain ⟨j, rfl, hjn, HJ, hwr⟩ := hrel
  replace hwr := hwr.symm
  subst hwr
  by_cases hlt : j < n
  ·have hcl : (j : Int) < (n : Int) := by omega
   obtain ⟨bb, off, rfl, hce⟩ := hR.flat (by omega)
   obtain ⟨aj, nj, cj, hcj, hrj⟩ := hce j hlt
   obtain ⟨r, hr⟩ : ∃ r, rs[j]? = some r := ⟨_, List.getElem?_eq_getElem (by rw [Hn.out]; exact hlt)⟩
   have hrd : rs.getD j [] = r := by rw [List.getD_eq_getElem?_getD, hr]; rfl
   rw [hrd] at hrj
   have hcap := hrj.cap
   have hmx : cj ≤ 9223372036854775807 := hrj.most
   have hl := hrj.len
   clear hce hrd hrj
   by_cases hb : 1048576 < nj
   ·have zb : (1048576 : Int) < (nj : Int) := by omega
    have HE : Hid (Q = (5, l, k)) := by
     show _ = _
     rw [← HQ0.out]
     unfold rebaseT bigs
     rw [if_pos]
     rw [List.any_eq_true]
     exact ⟨r, List.mem_of_getElem? hr, by rw [hl]; exact decide_eq_true hb⟩
    clear hr hb hl
    go_wp2
    go_ret
    exact ⟨by rw [HE.out]; rfl, by rw [HE.out]; exact Rgp.refl h⟩
   ·have zb : ¬ (1048576 : Int) < (nj : Int) := by omega
    have HJ2 : Hid (∀ i r, i < j + 1 → rs[i]? = some r → r.length ≤ 1048576) := fun i x hi hx => by
     by_cases e : i < j
     ·exact HJ.out i x e hx
     ·obtain rfl : i = j := by omega
      rw [hr] at hx
      cases hx
      omega
    clear hr hb hl
    go_wp2
    exact ⟨⟨j + 1, by go_num, by omega, HJ2.out, by first | rfl | trivial⟩, by simp [intOf]; omega⟩
  ·have hcl : ¬ (j : Int) < (n : Int) := by omega
   have HB : Hid (bigs rs = false) := by
    show _ = _
    unfold bigs
    rw [List.any_eq_false]
    intro r hr
    obtain ⟨i, hi⟩ := List.getElem?_of_mem hr
    have hil := (List.getElem?_eq_some_iff.1 hi).1
    rw [Hn.out] at hil
    have := HJ.out i r (by omega) hi
    simp
    omega
   clear HJ hlt hjn
   obtain ⟨v0, hD0, hRc0⟩ := h.ex
   have q2 := hD0.c2
   have q7 := hD0.c7
   by_cases hgm : l.ch.g = 18446744073709551615
   ·rw [hgm] at q2
    have HE : Hid (Q = (14, l, k)) := by
     show _ = _
     rw [← HQ0.out]
     unfold rebaseT
     rw [HB.out, if_neg (by decide), if_pos hgm]
    clear hgm
    go_wp2
    go_ret
    exact ⟨by rw [HE.out]; rfl, by rw [HE.out]; exact Rgp.refl h⟩
   ·have hgz : ((l.ch.g : Int) == 18446744073709551615) = false := by rw [beq_eq_false_iff_ne]; omega
    have hgz2 : ¬ (l.ch.g : Int) = 18446744073709551615 := by omega
    have HQ1 : Hid (rebaseL l k rs = Q) := by
     show _ = _
     rw [← HQ0.out]
     unfold rebaseT
     rw [HB.out, if_neg (by decide), if_neg hgm]
    clear HQ0
    cases hd : l.dn with
    | true =>
     rw [hd] at q7
     have HE : Hid (Q = (13, l, k)) := by
      show _ = _
      rw [← HQ1.out, rebase_dead l k rs hd]
     go_wp2
     go_ret
     exact ⟨by rw [HE.out]; rfl, by rw [HE.out]; exact Rgp.refl h⟩
    | false =>
     rw [hd] at q7
     have hbX : Below w.heap.size w w.drew := (Below.refl _ _).drew
     have hDX := hD0.below hbX
     have HS0 : w.drew.cell? ⟨rl, 0, none⟩ = some (.pointer (some ⟨rd, 0, none⟩)) ∧ w.drew.cell? ⟨rl, 1, none⟩ = some (.int .i64 (l.most : Int)) ∧ w.drew.cell? ⟨rl, 2, none⟩ = some (.int .u64 (l.ch.g : Int)) := ⟨hDX.c0, hDX.c1, hDX.c2⟩
     obtain ⟨v, HT0⟩ : ∃ v, Hid (RTwo w G H rl w.heap.size rd l v (w.drew.alloc (.cells #[.pointer (some ⟨rd, 0, none⟩), .int .i64 (l.most : Int), .int .u64 ((l.ch.g : Int) + 1), .slice none 0 0, .int .i64 0, .int .i64 0, .bool false, .bool false] 90)) G (fun _ => False) false ⟨l.most, [], ⟨l.ch.g + 1, 0, 0, false⟩, false⟩ k) := RTwo.start h hd rfl
     clear hD0 hRc0 hDX
     have HS00 := HS0
     clear HS0
     go_upto_region 10 with fail
     have HS0 := HS00
     have hgb : (l.ch.g : Int) + 1 ≤ 18446744073709551615 := by omega
     have hgb0 : 0 ≤ (l.ch.g : Int) + 1 := by omega
     have hgw : IntKind.u64.wrap ((l.ch.g : Int) + 1) = (l.ch.g : Int) + 1 := by rw [IntKind.wrap_u64]; omega
     have hsh : w.drew.heap.size = w.heap.size := rfl
     clear q2 q7 hgz hgz2 HS00
     refine wp_region_lx (fun w' => w'.cell? ⟨rl, 0, none⟩ = some (.pointer (some ⟨rd, 0, none⟩)) ∧ w'.cell? ⟨rl, 1, none⟩ = some (.int .i64 (l.most : Int)) ∧ w'.cell? ⟨rl, 2, none⟩ = some (.int .u64 (l.ch.g : Int))) [] 16 (by kernel_rfl) (by kernel_rfl) ?_
     generalize w.drew = X at *
     refine lx_r 0 (.pointer (some ⟨rl, 0, none⟩)) HS0 ?_; simp only [lxa, lxb, lxc]
     refine lx_r 1 (.pointer (some ⟨rl, 0, none⟩)) HS0 ?_; simp only [lxa, lxb, lxc]
     refine lx_r 2 (.pointer (some ⟨rl, 0, none⟩)) HS0 ?_; simp only [lxa, lxb, lxc]
     refine lx_r 3 (.pointer (some ⟨rd, 0, none⟩)) HS0 ?_ (hv := fun w' hS => by have q := hS.1; first | (go_simp; rfl) | go_simp); simp only [lxa, lxb, lxc]
     refine lx_r 4 (.pointer (some ⟨rl, 0, none⟩)) HS0 ?_; simp only [lxa, lxb, lxc]
     refine lx_r 5 (.pointer (some ⟨rl, 0, none⟩)) HS0 ?_; simp only [lxa, lxb, lxc]
     refine lx_r 6 (.pointer (some ⟨rl, 1, none⟩)) HS0 ?_; simp only [lxa, lxb, lxc]
     refine lx_r 7 (.int .i64 (l.most : Int)) HS0 ?_ (hv := fun w' hS => by have q := hS.2.1; first | (go_simp; rfl) | go_simp); simp only [lxa, lxb, lxc]
     refine lx_r 8 (.pointer (some ⟨rl, 0, none⟩)) HS0 ?_; simp only [lxa, lxb, lxc]
     refine lx_r 9 (.pointer (some ⟨rl, 0, none⟩)) HS0 ?_; simp only [lxa, lxb, lxc]
     refine lx_r 10 (.pointer (some ⟨rl, 2, none⟩)) HS0 ?_; simp only [lxa, lxb, lxc]
     refine lx_r 11 (.int .u64 (l.ch.g : Int)) HS0 ?_ (hv := fun w' hS => by have q := hS.2.2; first | (go_simp; rfl) | go_simp); simp only [lxa, lxb, lxc]
     refine lx_r 12 (.int .u64 ((l.ch.g : Int) + 1)) HS0 ?_ (hv := fun w' hS => by have q := hgw; first | (go_simp; rfl) | go_simp); simp only [lxa, lxb, lxc]
     refine lx_r 13 (.agg #[.pointer (some ⟨rd, 0, none⟩), .int .i64 (l.most : Int), .int .u64 ((l.ch.g : Int) + 1), .slice none 0 0, .int .i64 0, .int .i64 0, .bool false, .bool false]) HS0 ?_; simp only [lxa, lxb, lxc]
     have HS1 : ∀ o, ((X.alloc o).cell? ⟨rl, 0, none⟩ = some (.pointer (some ⟨rd, 0, none⟩)) ∧ (X.alloc o).cell? ⟨rl, 1, none⟩ = some (.int .i64 (l.most : Int)) ∧ (X.alloc o).cell? ⟨rl, 2, none⟩ = some (.int .u64 (l.ch.g : Int))) := fun o =>
      ⟨((Keep.refl (fun _ => False) X).alloc o).cell HS0.1 (fun h => h), ((Keep.refl (fun _ => False) X).alloc o).cell HS0.2.1 (fun h => h), ((Keep.refl (fun _ => False) X).alloc o).cell HS0.2.2 (fun h => h)⟩
     refine lx_one 14 (by kernel_rfl) (stepT_val (w' := X.alloc (.cells #[.pointer (some ⟨rd, 0, none⟩), .int .i64 (l.most : Int), .int .u64 ((l.ch.g : Int) + 1), .slice none 0 0, .int .i64 0, .int .i64 0, .bool false, .bool false] 90)) (.pointer (some ⟨X.heap.size, 0, none⟩)) rfl rfl rfl ?r14 (fun _ => HS1 _) ?_)
     case r14 => first | (go_simp; rfl) | go_simp
     simp only [lxa, lxb, lxc]
     replace HS1 := HS1 (.cells #[.pointer (some ⟨rd, 0, none⟩), .int .i64 (l.most : Int), .int .u64 ((l.ch.g : Int) + 1), .slice none 0 0, .int .i64 0, .int .i64 0, .bool false, .bool false] 90)
     generalize X.alloc (.cells #[.pointer (some ⟨rd, 0, none⟩), .int .i64 (l.most : Int), .int .u64 ((l.ch.g : Int) + 1), .slice none 0 0, .int .i64 0, .int .i64 0, .bool false, .bool false] 90) = Y at *
     rw [hsh]
     generalize w.heap.size = rh at HT0 ⊢
     refine lx_r 15 (.pointer (some ⟨rh, 0, none⟩)) HS1 ?_; simp only [lxa, lxb, lxc]
     refine lx_nil (by kernel_rfl) ?_
     have HQ2 : Hid (rb1L l rs (room1 (layAllL l.most (rs.drop 0) ⟨l.ch.g + 1, 0, 0, false⟩ false k)) = Q) := by
      show _ = _
      rw [← HQ1.out, List.drop_zero]
      unfold rebaseL
      rw [hd]
     clear HS0 HS1 hsh hbX HQ1
     go_upto_region 12 with fail
     go_loopw [7, 8] (fun s7 _ wr => ∃ (j : Nat) (G1 K1 : Nat → Prop) (ch : Ch) (k1 : Dk), s7 = .int .i64 j ∧ j ≤ n ∧ k1.steps ≤ k.steps + 2 * j ∧ k1.fs.length ≤ k.fs.length + 2 * j ∧ ch.g = l.ch.g + 1 ∧ ch.cnt ≤ j + 1 ∧ ch.size ≤ j * 1048584 ∧ Hid (ch.cnt = 0 → ch.size = 0) ∧ Hid (RTwo w G H rl rh rd l v wr G1 K1 false ⟨l.most, rs.take j, ch, false⟩ k1) ∧ Hid (rb1L l rs (room1 (layAllL l.most (rs.drop j) ch false k1)) = Q)) (fun s7 _ _ => n - (intOf s7).toNat)
     case atStart => exact ⟨0, G, fun _ => False, _, k, rfl, by omega, by omega, by omega, rfl, by show 0 ≤ 1; omega, by show 0 ≤ _; omega, fun _ => rfl, HT0.out, HQ2.out⟩
     case round =>
      clear HT0 HQ2
      obtain ⟨j, G1, K1, ch, k1, rfl, hjn, hs1, hf1, hchg, hchc, hchs, Hz0, HT, HQ⟩ := hrel
      by_cases hlt : j < n
      ·have hcl : (j : Int) < (n : Int) := by omega
       have hRr := hR.keepS hnS HT.out.kp
       obtain ⟨bb, off, rfl, hce⟩ := hRr.flat (by omega)
       obtain ⟨aj, nj, cj, hcj, hrj⟩ := hce j hlt
       have hjl : j < rs.length := by rw [Hn.out]; exact hlt
       have HQn : Hid (rb1L l rs (room1 (layAllL l.most (rs.getD j [] :: rs.drop (j + 1)) ch false k1)) = Q) := by
        show _ = _
        rw [← drop_head hjl]
        exact HQ.out
       have Htk : Hid (rs.take (j + 1) = rs.take j ++ [rs.getD j []]) := take_next hjl
       have hrlen : (rs.getD j []).length ≤ 1048576 := by
        have hm : rs.getD j [] ∈ rs := by
         rw [List.getD_eq_getElem?_getD, List.getElem?_eq_getElem hjl]
         exact List.getElem_mem hjl
        exact bigs_no HB.out _ hm
       clear hce hRr HQ hjl
       obtain ⟨r, Hr⟩ : ∃ r, Hid (rs.getD j [] = r) := ⟨_, rfl⟩
       rw [Hr.out] at HQn Htk hrlen hrj
       have hnl := hrj.len
       have hcap := hrj.cap
       have hmx : cj ≤ 9223372036854775807 := hrj.most
       have hbr := hrj.bytes
       have hfo := rform_any aj nj cj r wr hrj (by omega)
       have hfb : Bd (formL r) := by unfold formL; exact ((bigL_bd _ _).append (bigL_bd _ _)).append hbr
       have hfl2 : (formL r).length = 8 + nj := by unfold formL; simp [bigL_len, hnl]; omega
       obtain ⟨vh, hDh, hRh⟩ := HT.out.A.ex
       dsimp only at hDh hRh
       have hGl := hDh.R.lt
       have hrhl := hDh.lt
       have hla := fun w' (hb : Below wr.heap.size wr w') a' n' c' hR' (hn' : n' ≤ 2000000) hRG' => rlay_any w' G1 rh rd l.most vh ch k1 (hDh.below hb) (by omega) (by omega) (by omega) (by omega) Hz0.out (by omega) (by omega) a' n' c' (formL r) hR' hn' hRG'
       have lg := lay_gr l.most ch (formL r) false k1
       have ldn := lay_dn l.most ch (formL r) k1
       have lcn := lay_cnt l.most ch (formL r) k1
       obtain ⟨P, HP⟩ : ∃ P, layL l.most ch (formL r) false k1 = P := ⟨_, rfl⟩
       rw [HP] at lg ldn lcn
       simp only [HP] at hla
       have HP' : Hid (layL l.most ch (formL r) false k1 = P) := HP
       clear HP
       obtain ⟨en, c2, dn2, k2⟩ := P
       dsimp only at hla lg ldn lcn
       rw [hfl2] at lg
       obtain ⟨lg1, lg2, lg3, lg4, lg5⟩ := lg
       have hgc : c2.g < 18446744073709551616 := by omega
       clear hDh
       go_upto_region 15 with (first
        | (go_at_call 76; refine hfo.mono ?_; clear hfo; rintro e w3 ⟨v3, rfl, o3, hb3⟩; obtain ⟨a3, c3, rfl, r3⟩ := Rd.ofOwn o3 hfb)
        | (go_at_call 75; refine (hla w3 hb3 a3 (8 + nj) c3 r3 (by omega) (fun ad had => by
          rcases o3.2 with ⟨e, _⟩ | ⟨g, cap, cur, e, hg3, hgc3, _⟩
          ·injection e with e1; rw [e1] at had; cases had
          ·injection e with e1; rw [e1] at had; cases had
           exact ⟨fun hf => by have := hGl _ hf; dsimp only at this; omega, by dsimp only; omega, (Array.getElem?_eq_some_iff.1 hgc3).1⟩)).mono ?_; clear hla; rintro e w4 ⟨rfl, hp4⟩; obtain ⟨G4, T4⟩ := (HT.out.below hb3).callH (hRh.keep (S := fun _ => False) (Keep.ofBelow hb3) (fun _ _ h => h) (fun _ h => h)) hp4; have hdw := rdown_any w4 G4 rl rd l.most v l.ch false k2 T4.L en)
        | (go_at_call 74; refine hdw.mono ?_; clear hdw; rintro e w5 ⟨rfl, hp5⟩; obtain ⟨G5, T5⟩ := T4.callL hp5))
       have hdd : (if en = 13 then true else false) = dn2 := by
        rw [ldn]
        by_cases e13 : en = 13
        ·rw [if_pos e13, decide_eq_true e13]
        ·rw [if_neg e13, decide_eq_false e13]
       rw [hdd] at T5
       clear hdd hp4 hp5 T4 hRh r3 o3 hrj
       by_cases h0 : en = 0
       ·subst h0
        have e2 : dn2 = false := ldn
        subst e2
        have HQ2 : Hid (rb1L l rs (room1 (layAllL l.most (rs.drop (j + 1)) c2 false k2)) = Q) := by
         show _ = _
         rw [← layAll_ok (r := r) HP'.out]
         exact HQn.out
        clear HQn HP'
        have hcnt1 := lcn rfl
        clear ldn lcn
        rw [show ((0 : Nat) : Int) = 0 from rfl]
        have hRr5 := hR.keepS hnS T5.kp
        obtain ⟨bb5, off5, e5, hce5⟩ := hRr5.flat (by omega)
        injection e5 with e5
        injection e5 with e51 e52
        subst e51 e52
        obtain ⟨ak, nk, ck, hck, hrk⟩ := hce5 j hlt
        rw [Hr.out] at hrk
        clear hce5 hRr5 hcj
        have hbX : Below w5.heap.size w5 w5.drew := (Below.refl _ _).drew
        have TX := T5.below hbX
        obtain ⟨v2, hDX, hRX⟩ := TX.A.ex
        dsimp only at hDX hRX
        have hrX := hrk.carry (Nat.le_refl _) hbX
        have HSX : w5.drew.cell? ⟨rh, 3, none⟩ = some v2 ∧ w5.drew.cell? ⟨bb, off + j, none⟩ = some (.slice ak nk ck) := ⟨hDX.c3, (hbX.cell (World.block_lt_of_cell? _ _ hck)).trans hck⟩
        have hnk := hrk.len
        have htl : (rs.take j).length = j := by rw [List.length_take, Hn.out]; omega
        clear hck hrk hbX T5
        go_upto_region 19 with fail
        refine wp_region_lx (fun w' => w'.cell? ⟨rh, 3, none⟩ = some v2 ∧ w'.cell? ⟨bb, off + j, none⟩ = some (.slice ak nk ck)) [15] 16 (by kernel_rfl) (by kernel_rfl) ?_
        generalize w5.drew = X at *
        refine lx_r 0 (.pointer (some ⟨rh, 0, none⟩)) HSX ?_; simp only [lxa, lxb, lxc]
        refine lx_r 1 (.pointer (some ⟨rh, 0, none⟩)) HSX ?_; simp only [lxa, lxb, lxc]
        refine lx_r 2 (.pointer (some ⟨rh, 0, none⟩)) HSX ?_; simp only [lxa, lxb, lxc]
        refine lx_r 3 (.pointer (some ⟨rh, 3, none⟩)) HSX ?_; simp only [lxa, lxb, lxc]
        refine lx_r 4 v2 HSX ?_ (hv := fun w' hS => by have q := hS.1; first | (go_simp; rfl) | go_simp); simp only [lxa, lxb, lxc]
        refine lx_r 6 (.slice (some ⟨bb, off, none⟩) n cc) HSX ?_; simp only [lxa, lxb, lxc]
        refine lx_r 7 (.int .i64 (j : Int)) HSX ?_; simp only [lxa, lxb, lxc]
        refine lx_r 8 (.pointer (some ⟨bb, off + j, none⟩)) HSX ?_; simp only [lxa, lxb, lxc]
        refine lx_r 9 (.slice ak nk ck) HSX ?_ (hv := fun w' hS => by have q := hS.2; first | (go_simp; rfl) | go_simp); simp only [lxa, lxb, lxc]
        have t5 : ∀ p x, X.cell? p = some x → (X.alloc (.cells #[] 5)).cell? p = some x := fun p x hx => ((Keep.refl (fun _ => False) X).alloc _).cell hx (fun h => h)
        refine lx_one 5 (by kernel_rfl) (stepT_val (w' := X.alloc (.cells #[] 5)) (.slice (some ⟨X.heap.size, 0, none⟩) 0 0) rfl rfl rfl ?r5 (fun _ => ⟨t5 _ _ HSX.1, t5 _ _ HSX.2⟩) ?_)
        case r5 => first | (go_simp; rfl) | go_simp
        simp only [lxa, lxb, lxc]
        have hown5 : (X.alloc (.cells #[] 5)).ownsRow X.heap.size 5 1 (.slice (some ⟨X.heap.size, 0, none⟩) 0 0) 0 (bc []) := World.ownsRow_made X #[] 0 (Nat.le_refl _) (by unfold maxLen; omega) rfl
        have hb5 : Below X.heap.size X (X.alloc (.cells #[] 5)) := (Below.refl _ _).alloc (Nat.le_refl _) _
        obtain ⟨v7, w7, hrun7, o7, hb7⟩ := run_appJ 29 hown5 (hrX.carry (Nat.le_refl _) hb5) (by omega) hb5.size
        rw [Nat.zero_add, List.nil_append] at o7
        have hbX7 : Below X.heap.size X w7 := hb5.trans hb7
        obtain ⟨a7, c7, rfl, _⟩ := Rd.ofOwn o7 hbr
        have t7 : w7.cell? ⟨rh, 3, none⟩ = some v2 ∧ w7.cell? ⟨bb, off + j, none⟩ = some (.slice ak nk ck) := ⟨(hbX7.cell (World.block_lt_of_cell? _ _ HSX.1)).trans HSX.1, (hbX7.cell (World.block_lt_of_cell? _ _ HSX.2)).trans HSX.2⟩
        refine lx_one 10 (by kernel_rfl) (stepT_val (w' := w7) (.slice a7 nk c7) rfl rfl rfl (exec_appJ rfl rfl rfl hrun7) (fun _ => t7) ?_)
        simp only [lxa, lxb, lxc]
        have t8 : ∀ p x, w7.cell? p = some x → (w7.alloc (.cells #[.slice a7 nk c7] 29)).cell? p = some x := fun p x hx => ((Keep.refl (fun _ => False) w7).alloc _).cell hx (fun h => h)
        refine lx_one 11 (by kernel_rfl) (stepT_val (w' := w7.alloc (.cells #[.slice a7 nk c7] 29)) (.slice (some ⟨w7.heap.size, 0, none⟩) 1 1) rfl rfl rfl ?r8 (fun _ => ⟨t8 _ _ t7.1, t8 _ _ t7.2⟩) ?_)
        case r8 => first | (go_simp; rfl) | go_simp
        simp only [lxa, lxb, lxc]
        obtain ⟨⟨vs, ov, hvs⟩, hvo⟩ := hRX.keep (S := fun _ => False) (H' := K1) (Keep.ofBelow hbX7) (fun _ _ h => h) (fun _ h => h)
        obtain ⟨v9, w9, hrun9, ov9, hk9, hwh9⟩ := run_appW 30 ov a7 nk c7 (by rw [htl]; omega) (Nat.zero_le _)
        obtain ⟨a9, c9, rfl⟩ := own_sl ov9
        have hKlt := TX.A.lt
        have nrh : ¬ v2.ownBlock = some rh := fun hv => TX.A.hl (hvo rh hv)
        have nbb : ¬ v2.ownBlock = some bb := fun hv => by
         have h9 := TX.Kn _ (hvo bb hv)
         have h8 := TX.kp.size
         obtain ⟨b9, o9, e9, hc9⟩ := hR.flat (by omega)
         injection e9 with e9
         injection e9 with e91 e92
         subst e91 e92
         obtain ⟨_, _, _, hc10, _⟩ := hc9 j hlt
         have := World.block_lt_of_cell? _ _ hc10
         dsimp only at this
         omega
        have t9 : w9.cell? ⟨rh, 3, none⟩ = some v2 ∧ w9.cell? ⟨bb, off + j, none⟩ = some (.slice ak nk ck) := ⟨hk9.cell (p := ⟨rh, 3, none⟩) t7.1 nrh, hk9.cell (p := ⟨bb, off + j, none⟩) t7.2 nbb⟩
        obtain ⟨K9, hA9, hkA9, hK9, f9⟩ := radd_rec (l := ⟨l.most, rs.take j, c2, false⟩) TX.A hDX hRX hbX7 o7 hnk hbr ov hvs ov9 hk9 hwh9
        dsimp only at hA9 hkA9
        rw [htl] at hrun9 hA9 hkA9
        rw [← Htk.out] at hA9
        refine lx_one 12 (by kernel_rfl) (stepT_val (w' := w9) (.slice a9 (j + 1) c9) rfl rfl rfl (exec_appW rfl rfl rfl hrun9) (fun _ => t9) ?_)
        simp only [lxa, lxb, lxc]
        refine lx_one 13 (by kernel_rfl) (stepT_val (w' := w9) (.pointer (some ⟨rh, 0, none⟩)) rfl rfl rfl ?r13 (fun _ => t9) ?_)
        case r13 => first | (go_simp; rfl) | go_simp
        simp only [lxa, lxb, lxc]
        refine lx_one 14 (by kernel_rfl) (stepT_val (w' := w9) (.pointer (some ⟨rh, 3, none⟩)) rfl rfl rfl ?r14 (fun _ => t9) ?_)
        case r14 => first | (go_simp; rfl) | go_simp
        simp only [lxa, lxb, lxc]
        have q9 := t9.1
        refine lx_one 15 (by kernel_rfl) (stepT_store (w' := w9.setCell ⟨rh, 3, none⟩ (.slice a9 (j + 1) c9)) rfl rfl rfl ?r15 (fun h => by cases h) ?_)
        case r15 => first | (go_simp; rfl) | go_simp
        refine lx_nil (by kernel_rfl) ?_
        have T9 := TX.add hA9 hkA9 hK9
        clear TX hA9 hkA9 hK9 f9 q9 t9 ov9 hrun9 hk9 hwh9 hvs ov hrun7 o7 hb7 hown5 t7 t8 t5 HSX hDX hRX hrX hvo
        generalize w9.setCell ⟨rh, 3, none⟩ (.slice a9 (j + 1) c9) = V at *
        go_wp2
        exact ⟨⟨j + 1, G5, K9, c2, k2, by go_num, by omega, by omega, by omega, by omega, by omega, by omega, fun h9 => by omega, T9, HQ2.out⟩, by simp [intOf]; omega⟩
       ·have z0 : ((en : Int) == 0) = false := by rw [beq_eq_false_iff_ne]; omega
        have z0' : ¬ (en : Int) = 0 := by omega
        by_cases h8 : en = 8
        ·subst h8
         have e2 : dn2 = false := ldn
         subst e2
         have HE : Hid (Q = ((undoL c2 false k2).1, ⟨l.most, l.recs, l.ch, (undoL c2 false k2).2.1⟩, (undoL c2 false k2).2.2)) := by
          show _ = _
          rw [← HQn.out, layAll_no HP'.out h0, room1_undo]
          unfold rb1L
          rw [if_pos (undo_ne0 c2 false k2)]
         obtain ⟨vh5, hDh5, _⟩ := T5.A.ex
         dsimp only at hDh5
         have hun := rundo_any w5 G5 rl rd l.most v l.ch k2 T5.L rh l.most vh5 c2 false hDh5.blk ⟨hDh5.nf, T5.ne⟩ false hgc (by omega) (by omega) (by omega)
         generalize undoL c2 false k2 = U at *
         clear HQn HP' hDh5 lcn ldn
         have z8 : ((8 : Nat) : Int) = 8 := rfl
         go_wp2_with (first
          | (go_at_call 77; refine hun.mono ?_; clear hun; rintro e w6 ⟨rfl, hp6⟩))
         go_ret
         obtain ⟨G6, T6⟩ := T5.callL hp6
         exact ⟨by rw [HE.out]; rfl, by rw [HE.out]; exact T6.out⟩
        ·have z8 : ((en : Int) == 8) = false := by rw [beq_eq_false_iff_ne]; omega
         have z8' : ¬ (en : Int) = 8 := by omega
         have HE : Hid (Q = (en, ⟨l.most, l.recs, l.ch, dn2⟩, k2)) := by
          show _ = _
          rw [← HQn.out, layAll_no HP'.out h0, room1_id h8]
          unfold rb1L
          rw [if_pos h0]
         clear HQn HP' lcn ldn h0 h8 lg1 lg2 lg3 lg4 lg5 hchg hgc
         have z0n : ((en : Int) != 0) = true := by simpa using z0'
         clear z0
         go_wp2
         go_ret
         exact ⟨by rw [HE.out]; rfl, by rw [HE.out]; exact T5.out⟩
      ·have hcl : ¬ (j : Int) < (n : Int) := by omega
       have HQs : Hid (rb1L l rs (room1 (settleL ch false k1)) = Q) := by
        show _ = _
        have h9 := HQ.out
        rw [List.drop_of_length_le (by rw [Hn.out]; omega)] at h9
        exact h9
       have htk : rs.take j = rs := List.take_of_length_le (by rw [Hn.out]; omega)
       have T := HT.out
       rw [htk] at T
       clear HQ HT htk hlt hR hnS
       obtain ⟨vh, hDh, hRh⟩ := T.A.ex
       dsimp only at hDh hRh
       have hco := rcommit_any wr G1 rh rd l.most vh ch false k1 hDh (by omega) (by omega) (by omega)
       have sg := settle_gr ch false k1
       have sdn := settle_dn ch k1
       have sn8 := settle_ne8 ch k1
       obtain ⟨P, HP⟩ : ∃ P, settleL ch false k1 = P := ⟨_, rfl⟩
       have HP' : Hid (settleL ch false k1 = P) := HP
       rw [HP] at hco sg sdn sn8
       clear HP hDh
       obtain ⟨en, c2, dn2, k2⟩ := P
       dsimp only at hco sg sdn sn8
       obtain ⟨sg1, sg2, sg3, sg4⟩ := sg
       have hgc : c2.g < 18446744073709551616 := by omega
       go_upto_region 21 with (first
        | (go_at_call 41; refine hco.mono ?_; clear hco; rintro e w4 ⟨rfl, hp4⟩; obtain ⟨G4, T4⟩ := T.callH hRh hp4; have hdw := rdown_any w4 G4 rl rd l.most v l.ch false k2 T4.L en)
        | (go_at_call 74; refine hdw.mono ?_; clear hdw; rintro e w5 ⟨rfl, hp5⟩; obtain ⟨G5, T5⟩ := T4.callL hp5))
       have hdd : (if en = 13 then true else false) = dn2 := by
        rw [sdn]
        by_cases e13 : en = 13
        ·rw [if_pos e13, decide_eq_true e13]
        ·rw [if_neg e13, decide_eq_false e13]
       rw [hdd] at T5
       clear hdd hp4 hp5 T4 hRh T sdn
       by_cases h0 : en = 0
       ·subst h0
        obtain ⟨ti1, ti2, ti3⟩ := settle_tight HP'.out
        subst ti3
        have HQ2 : Hid (rb2L l rs (room2 (wrB c2 false k2)) = Q) := by
         show _ = _
         have h9 := HQs.out
         rw [HP'.out, room1_id (by simp)] at h9
         unfold rb1L at h9
         rw [if_neg (by simp)] at h9
         exact h9
        clear HQs HP' sn8
        rw [show ((0 : Nat) : Int) = 0 from rfl]
        rw [wrB_rd] at HQ2
        have hap := fun w' G' (hr : RefAt w' G' rd k2) a' n' c' hY hYG => refAppend_any rd G' k2 sNew (by decide) a' n' c' (baseL c2.g) (by omega) (by omega) w' hr hY hYG
        have ag := app_gr k2 sNew (baseL c2.g)
        obtain ⟨P, HP⟩ : ∃ P, appK k2 sNew (baseL c2.g) = P := ⟨_, rfl⟩
        rw [HP] at HQ2 ag
        simp only [HP] at hap
        clear HP
        obtain ⟨en, k3⟩ := P
        dsimp only at hap ag HQ2
        have hbX : Below w5.heap.size w5 w5.drew := (Below.refl _ _).drew
        have TX := T5.below hbX
        obtain ⟨vX, hDX, hRX⟩ := TX.A.ex
        dsimp only at hDX hRX
        have HSX : w5.drew.cell? ⟨rl, 0, none⟩ = some (.pointer (some ⟨rd, 0, none⟩)) ∧ w5.drew.cell? ⟨rh, 2, none⟩ = some (.int .u64 (c2.g : Int)) := ⟨TX.L.c0, hDX.c2⟩
        have hba := rbase_any c2.g w5.drew
        have hbb : Bd (baseL c2.g) := by unfold baseL; exact (bigL_bd _ _).append (bigL_bd _ _)
        have hGl := hDX.R.lt
        clear hbX T5 hDX sg3 ti2 hchg
        go_upto_region 23 with fail
        unfold sNew at *
        refine wp_region_lx (fun w' => w'.cell? ⟨rl, 0, none⟩ = some (.pointer (some ⟨rd, 0, none⟩)) ∧ w'.cell? ⟨rh, 2, none⟩ = some (.int .u64 (c2.g : Int))) [] 13 (by kernel_rfl) (by kernel_rfl) ?_
        generalize w5.drew = X at *
        refine lx_r 0 (.pointer (some ⟨rl, 0, none⟩)) HSX ?_; simp only [lxa, lxb, lxc]
        refine lx_r 1 (.pointer (some ⟨rl, 0, none⟩)) HSX ?_; simp only [lxa, lxb, lxc]
        refine lx_r 2 (.pointer (some ⟨rl, 0, none⟩)) HSX ?_; simp only [lxa, lxb, lxc]
        refine lx_r 3 (.pointer (some ⟨rl, 0, none⟩)) HSX ?_; simp only [lxa, lxb, lxc]
        refine lx_r 4 (.pointer (some ⟨rd, 0, none⟩)) HSX ?_ (hv := fun w' hS => by have q := hS.1; first | (go_simp; rfl) | go_simp); simp only [lxa, lxb, lxc]
        refine lx_r 5 (.pointer (some ⟨rh, 0, none⟩)) HSX ?_; simp only [lxa, lxb, lxc]
        refine lx_r 6 (.pointer (some ⟨rh, 0, none⟩)) HSX ?_; simp only [lxa, lxb, lxc]
        refine lx_r 7 (.pointer (some ⟨rh, 2, none⟩)) HSX ?_; simp only [lxa, lxb, lxc]
        refine lx_r 8 (.int .u64 (c2.g : Int)) HSX ?_ (hv := fun w' hS => by have q := hS.2; first | (go_simp; rfl) | go_simp); simp only [lxa, lxb, lxc]
        refine lx_one 9 (by kernel_rfl) (stepT_call 78 ?a9 rfl rfl rfl ?r9 ?_)
        case r9 => first | (go_simp; rfl) | go_simp
        refine hba.mono ?_
        rintro e w6 ⟨v6, rfl, o6, hb6⟩
        obtain ⟨a6, c6, rfl, r6⟩ := Rd.ofOwn o6 hbb
        have T6 := TX.below hb6
        obtain ⟨vh6, hDh6, _⟩ := T6.A.ex
        dsimp only at hDh6
        refine ⟨_, rfl, fun _ => ⟨T6.L.c0, hDh6.c2⟩, ?_⟩
        simp only [lxa, lxb, lxc]
        refine lx_one 10 (by kernel_rfl) (stepT_call 18 ?a10 rfl rfl rfl ?r10 ?_)
        case r10 => first | (go_simp; rfl) | go_simp
        refine (hap w6 G5 T6.L.R a6 12 c6 r6 (fun ad had hf => by
         rcases o6.2 with ⟨e, _⟩ | ⟨g, cap, cur, e, hg6, hgc6, _⟩
         ·injection e with e1; rw [e1] at had; cases had
         ·injection e with e1; rw [e1] at had; cases had
          have := hGl _ hf
          dsimp only at this
          omega)).mono ?_
        rintro e w7 ⟨rfl, hp7⟩
        obtain ⟨G7, T7⟩ := T6.callL (T6.L.rp hp7)
        obtain ⟨vh7, hDh7, _⟩ := T7.A.ex
        dsimp only at hDh7
        refine ⟨_, rfl, fun _ => ⟨T7.L.c0, hDh7.c2⟩, ?_⟩
        simp only [lxa, lxb, lxc]
        have hdw := rdown_any w7 G7 rl rd l.most v l.ch false k3 T7.L en
        refine lx_one 11 (by kernel_rfl) (stepT_call 74 ?a11 rfl rfl rfl ?r11 ?_)
        case r11 => first | (go_simp; rfl) | go_simp
        refine hdw.mono ?_
        rintro e w8 ⟨rfl, hp8⟩
        obtain ⟨G8, T8⟩ := T7.callL hp8
        obtain ⟨vh8, hDh8, _⟩ := T8.A.ex
        dsimp only at hDh8
        have HS8 : w8.cell? ⟨rl, 0, none⟩ = some (.pointer (some ⟨rd, 0, none⟩)) ∧ w8.cell? ⟨rh, 2, none⟩ = some (.int .u64 (c2.g : Int)) := ⟨T8.L.c0, hDh8.c2⟩
        refine ⟨_, rfl, fun _ => HS8, ?_⟩
        simp only [lxa, lxb, lxc]
        refine lx_r 12 (.int .i64 (en : Int)) HS8 ?_; simp only [lxa, lxb, lxc]
        refine lx_nil (by kernel_rfl) ?_
        clear HSX HS8 T6 T7 TX hba hap hdw hp7 hp8 o6 r6 hDh6 hDh7 hRX hGl hbb
        by_cases h0 : en = 0
        ·subst h0
         rw [if_neg (by decide)] at T8 HQ2
         have HQ3 : Hid (rb3L l rs c2 (stp false k3 (syncK k3 sNew)) = Q) := by
          show _ = _
          have h9 := HQ2.out
          rw [room2_id (by simp)] at h9
          unfold rb2L at h9
          rw [if_neg (by simp)] at h9
          exact h9
         rw [stp_rd false k3 _ rfl] at HQ3
         rw [show ((0 : Nat) : Int) = 0 from rfl]
         have hsy := refSync_any rd G8 k3 sNew (by decide) (by omega) w8 T8.L.R
         have sg := sync_gr k3 sNew
         unfold sNew at HQ3 hsy sg
         obtain ⟨P, HP⟩ : ∃ P, syncK k3 ⟨#[98, 97, 115, 101, 46, 110, 101, 119]⟩ = P := ⟨_, rfl⟩
         rw [HP] at HQ3 hsy sg
         clear HP HQ2
         obtain ⟨en, k4⟩ := P
         dsimp only at HQ3 hsy sg
         have q8 := T8.L.c0
         go_upto_region 28 with (first
          | (go_at_call 79; refine hsy.mono ?_; clear hsy; rintro e w9 ⟨rfl, hp9⟩; obtain ⟨G9, T9⟩ := T8.callL (T8.L.rp hp9); have hdw := rdown_any w9 G9 rl rd l.most v l.ch false k4 T9.L en)
          | (go_at_call 74; refine hdw.mono ?_; clear hdw; rintro e w10 ⟨rfl, hp10⟩; obtain ⟨G10, T10⟩ := T9.callL hp10))
         clear T8 T9 hp9 hp10 q8 hDh8
         by_cases h0 : en = 0
         ·subst h0
          rw [if_neg (by decide)] at T10 HQ3
          have HQ4 : Hid (rb4L l rs c2 (stp false k4 (renameK k4 sNew sBase)) = Q) := by
           show _ = _
           have h9 := HQ3.out
           unfold rb3L at h9
           rw [if_neg (by simp)] at h9
           exact h9
          rw [stp_rd false k4 _ rfl] at HQ4
          rw [show ((0 : Nat) : Int) = 0 from rfl]
          have hre := refRename_any rd G10 k4 sNew sBase (by decide) (by decide) (by omega) (by omega) w10 T10.L.R
          have rg := ren_gr k4 sNew sBase
          unfold sNew sBase at HQ4 hre rg
          obtain ⟨P, HP⟩ : ∃ P, renameK k4 ⟨#[98, 97, 115, 101, 46, 110, 101, 119]⟩ ⟨#[98, 97, 115, 101]⟩ = P := ⟨_, rfl⟩
          rw [HP] at HQ4 hre rg
          clear HP HQ3
          obtain ⟨en, k5⟩ := P
          dsimp only at HQ4 hre rg
          have q10 := T10.L.c0
          go_upto_region 30 with (first
           | (go_at_call 80; refine hre.mono ?_; clear hre; rintro e w11 ⟨rfl, hp11⟩; obtain ⟨G11, T11⟩ := T10.callL (T10.L.rp hp11); have hdw := rdown_any w11 G11 rl rd l.most v l.ch false k5 T11.L en)
           | (go_at_call 74; refine hdw.mono ?_; clear hdw; rintro e w12 ⟨rfl, hp12⟩; obtain ⟨G12, T12⟩ := T11.callL hp12))
          clear T10 T11 hp11 hp12 q10
          by_cases h0 : en = 0
          ·subst h0
           rw [if_neg (by decide)] at T12 HQ4
           have HQ5 : Hid (((remC l.ch false k5).1, (⟨l.most, rs, c2, (remC l.ch false k5).2.1⟩ : Lg), (remC l.ch false k5).2.2) = Q) := by
            show _ = _
            have h9 := HQ4.out
            unfold rb4L at h9
            rw [if_neg (by simp)] at h9
            exact h9
           clear HQ4
           rw [show ((0 : Nat) : Int) = 0 from rfl]
           have y4 := T12.L.c4
           have y2 := T12.L.c2
           go_upto_region 32 with fail
           go_quiet (fail)
           have T13 := T12.below (show Below w12.heap.size w12 (w12.drewN nq) from ⟨rfl, rfl, rfl, Nat.le_refl _, fun _ _ => rfl⟩)
           clear T12 y4 y2
           generalize w12.drewN nq = w13 at *
           have hbX : Below w13.heap.size w13 w13.drew := (Below.refl _ _).drew
           have TX := T13.below hbX
           obtain ⟨vX, hDX, hRX⟩ := TX.A.ex
           dsimp only at hDX hRX
           have HSX : w13.drew.cell? ⟨rh, 2, none⟩ = some (.int .u64 (c2.g : Int)) ∧ w13.drew.cell? ⟨rh, 3, none⟩ = some vX ∧ w13.drew.cell? ⟨rh, 4, none⟩ = some (.int .i64 (c2.cnt : Int)) ∧ w13.drew.cell? ⟨rh, 5, none⟩ = some (.int .i64 (c2.size : Int)) := ⟨hDX.c2, hDX.c3, hDX.c4, hDX.c5⟩
           clear hbX T13
           have hTl := TX.L
           have w2 := hTl.c2
           have f2 := hTl.fz 2
           go_upto_region 33 with fail
           refine wp_region_lx (fun w' => w'.cell? ⟨rh, 2, none⟩ = some (.int .u64 (c2.g : Int)) ∧ w'.cell? ⟨rh, 3, none⟩ = some vX ∧ w'.cell? ⟨rh, 4, none⟩ = some (.int .i64 (c2.cnt : Int)) ∧ w'.cell? ⟨rh, 5, none⟩ = some (.int .i64 (c2.size : Int))) [] 36 (by kernel_rfl) (by kernel_rfl) ?_
           generalize w13.drew = X at *
           refine lx_r 0 (.pointer (some ⟨rl, 0, none⟩)) HSX ?_; simp only [lxa, lxb, lxc]
           refine lx_r 1 (.pointer (some ⟨rl, 0, none⟩)) HSX ?_; simp only [lxa, lxb, lxc]
           refine lx_r 2 (.pointer (some ⟨rl, 0, none⟩)) HSX ?_; simp only [lxa, lxb, lxc]
           refine lx_r 3 (.pointer (some ⟨rl, 0, none⟩)) HSX ?_; simp only [lxa, lxb, lxc]
           refine lx_r 4 (.pointer (some ⟨rl, 0, none⟩)) HSX ?_; simp only [lxa, lxb, lxc]
           refine lx_r 5 (.pointer (some ⟨rh, 0, none⟩)) HSX ?_; simp only [lxa, lxb, lxc]
           refine lx_r 6 (.pointer (some ⟨rh, 0, none⟩)) HSX ?_; simp only [lxa, lxb, lxc]
           refine lx_r 7 (.pointer (some ⟨rh, 2, none⟩)) HSX ?_; simp only [lxa, lxb, lxc]
           refine lx_r 8 (.int .u64 (c2.g : Int)) HSX ?_ (hv := fun w' hS => by have q := hS.1; first | (go_simp; rfl) | go_simp); simp only [lxa, lxb, lxc]
           refine lx_r 9 (.pointer (some ⟨rh, 0, none⟩)) HSX ?_; simp only [lxa, lxb, lxc]
           refine lx_r 10 (.pointer (some ⟨rh, 0, none⟩)) HSX ?_; simp only [lxa, lxb, lxc]
           refine lx_r 11 (.pointer (some ⟨rh, 3, none⟩)) HSX ?_; simp only [lxa, lxb, lxc]
           refine lx_r 12 vX HSX ?_ (hv := fun w' hS => by have q := hS.2.1; first | (go_simp; rfl) | go_simp); simp only [lxa, lxb, lxc]
           refine lx_r 13 (.pointer (some ⟨rh, 0, none⟩)) HSX ?_; simp only [lxa, lxb, lxc]
           refine lx_r 14 (.pointer (some ⟨rh, 0, none⟩)) HSX ?_; simp only [lxa, lxb, lxc]
           refine lx_r 15 (.pointer (some ⟨rh, 4, none⟩)) HSX ?_; simp only [lxa, lxb, lxc]
           refine lx_r 16 (.int .i64 (c2.cnt : Int)) HSX ?_ (hv := fun w' hS => by have q := hS.2.2.1; first | (go_simp; rfl) | go_simp); simp only [lxa, lxb, lxc]
           refine lx_r 17 (.pointer (some ⟨rh, 0, none⟩)) HSX ?_; simp only [lxa, lxb, lxc]
           refine lx_r 18 (.pointer (some ⟨rh, 0, none⟩)) HSX ?_; simp only [lxa, lxb, lxc]
           refine lx_r 19 (.pointer (some ⟨rh, 5, none⟩)) HSX ?_; simp only [lxa, lxb, lxc]
           refine lx_r 20 (.int .i64 (c2.size : Int)) HSX ?_ (hv := fun w' hS => by have q := hS.2.2.2; first | (go_simp; rfl) | go_simp); simp only [lxa, lxb, lxc]
           refine lx_r 21 (.pointer (some ⟨rl, 0, none⟩)) HSX ?_; simp only [lxa, lxb, lxc]
           refine lx_r 22 (.pointer (some ⟨rl, 2, none⟩)) HSX ?_; simp only [lxa, lxb, lxc]
           have hne : ∀ i j : Nat, (⟨rl, i, none⟩ : Addr) ≠ ⟨rh, j, none⟩ := fun i j e => TX.ne (congrArg Addr.block e).symm
           have hSw : ∀ (W : World) (i : Nat) (u : Value), (W.cell? ⟨rh, 2, none⟩ = some (.int .u64 (c2.g : Int)) ∧ W.cell? ⟨rh, 3, none⟩ = some vX ∧ W.cell? ⟨rh, 4, none⟩ = some (.int .i64 (c2.cnt : Int)) ∧ W.cell? ⟨rh, 5, none⟩ = some (.int .i64 (c2.size : Int))) → ((W.setCell ⟨rl, i, none⟩ u).cell? ⟨rh, 2, none⟩ = some (.int .u64 (c2.g : Int)) ∧ (W.setCell ⟨rl, i, none⟩ u).cell? ⟨rh, 3, none⟩ = some vX ∧ (W.setCell ⟨rl, i, none⟩ u).cell? ⟨rh, 4, none⟩ = some (.int .i64 (c2.cnt : Int)) ∧ (W.setCell ⟨rl, i, none⟩ u).cell? ⟨rh, 5, none⟩ = some (.int .i64 (c2.size : Int))) := fun W i u hW =>
            ⟨(World.cell?_setCell_other _ _ _ _ (hne _ _)).trans hW.1, (World.cell?_setCell_other _ _ _ _ (hne _ _)).trans hW.2.1, (World.cell?_setCell_other _ _ _ _ (hne _ _)).trans hW.2.2.1, (World.cell?_setCell_other _ _ _ _ (hne _ _)).trans hW.2.2.2⟩
           have R1 : RD (X.setCell ⟨rl, 2, none⟩ (.int .u64 (c2.g : Int))) G12 rl rd l.most v { l.ch with g := c2.g } false k5 := hTl.set 2 _ rfl
           have HS1 := hSw X 2 (.int .u64 (c2.g : Int)) HSX
           have KX : Keep (fun i => i = rl) X (X.setCell ⟨rl, 2, none⟩ (.int .u64 (c2.g : Int))) := (Keep.refl (fun i => i = rl) X).setCell (p := ⟨rl, 2, none⟩) rfl _
           refine lx_one 23 (by kernel_rfl) (stepT_store (w' := X.setCell ⟨rl, 2, none⟩ (.int .u64 (c2.g : Int))) rfl rfl rfl ?r23 (fun _ => HS1) ?_)
           case r23 => first | (go_simp; rfl) | go_simp
           clear w2 f2 hTl
           have w3 := R1.c3
           have f3 := R1.fz 3
           have KX1 := KX.setCell (p := ⟨rl, 3, none⟩) rfl vX
           have R2 : RD ((X.setCell ⟨rl, 2, none⟩ (.int .u64 (c2.g : Int))).setCell ⟨rl, 3, none⟩ vX) G12 rl rd l.most vX { l.ch with g := c2.g } false k5 := R1.set 3 _ rfl
           have HS2 := hSw _ 3 vX HS1
           generalize X.setCell ⟨rl, 2, none⟩ (.int .u64 (c2.g : Int)) = X1 at *
           obtain ⟨aX, cX, eX⟩ : ∃ a c, vX = .slice a rs.length c := by
            obtain ⟨⟨vs, ov, _⟩, _⟩ := hRX
            exact own_sl ov
           subst eX
           refine lx_r 24 (.pointer (some ⟨rl, 0, none⟩)) HS1 ?_; simp only [lxa, lxb, lxc]
           refine lx_r 25 (.pointer (some ⟨rl, 3, none⟩)) HS1 ?_; simp only [lxa, lxb, lxc]
           refine lx_one 26 (by kernel_rfl) (stepT_store (w' := X1.setCell ⟨rl, 3, none⟩ (.slice aX rs.length cX)) rfl rfl rfl ?r26 (fun _ => HS2) ?_)
           case r26 => first | (go_simp; rfl) | go_simp
           clear w3 f3 R1 HS1
           have w4 := R2.c4
           have f4 := R2.fz 4
           have KX2 := KX1.setCell (p := ⟨rl, 4, none⟩) rfl (.int .i64 (c2.cnt : Int))
           have R3 : RD ((X1.setCell ⟨rl, 3, none⟩ (.slice aX rs.length cX)).setCell ⟨rl, 4, none⟩ (.int .i64 (c2.cnt : Int))) G12 rl rd l.most (.slice aX rs.length cX) { l.ch with g := c2.g, cnt := c2.cnt } false k5 := R2.set 4 _ rfl
           have HS3 := hSw _ 4 (.int .i64 (c2.cnt : Int)) HS2
           generalize X1.setCell ⟨rl, 3, none⟩ (.slice aX rs.length cX) = X2 at *
           refine lx_r 27 (.pointer (some ⟨rl, 0, none⟩)) HS2 ?_; simp only [lxa, lxb, lxc]
           refine lx_r 28 (.pointer (some ⟨rl, 4, none⟩)) HS2 ?_; simp only [lxa, lxb, lxc]
           refine lx_one 29 (by kernel_rfl) (stepT_store (w' := X2.setCell ⟨rl, 4, none⟩ (.int .i64 (c2.cnt : Int))) rfl rfl rfl ?r29 (fun _ => HS3) ?_)
           case r29 => first | (go_simp; rfl) | go_simp
           clear w4 f4 R2 HS2
           have w5' := R3.c5
           have f5 := R3.fz 5
           have KX3 := KX2.setCell (p := ⟨rl, 5, none⟩) rfl (.int .i64 (c2.size : Int))
           have R4 : RD ((X2.setCell ⟨rl, 4, none⟩ (.int .i64 (c2.cnt : Int))).setCell ⟨rl, 5, none⟩ (.int .i64 (c2.size : Int))) G12 rl rd l.most (.slice aX rs.length cX) { l.ch with g := c2.g, cnt := c2.cnt, size := c2.size } false k5 := R3.set 5 _ rfl
           have HS4 := hSw _ 5 (.int .i64 (c2.size : Int)) HS3
           generalize X2.setCell ⟨rl, 4, none⟩ (.int .i64 (c2.cnt : Int)) = X3 at *
           refine lx_r 30 (.pointer (some ⟨rl, 0, none⟩)) HS3 ?_; simp only [lxa, lxb, lxc]
           refine lx_r 31 (.pointer (some ⟨rl, 5, none⟩)) HS3 ?_; simp only [lxa, lxb, lxc]
           refine lx_one 32 (by kernel_rfl) (stepT_store (w' := X3.setCell ⟨rl, 5, none⟩ (.int .i64 (c2.size : Int))) rfl rfl rfl ?r32 (fun _ => HS4) ?_)
           case r32 => first | (go_simp; rfl) | go_simp
           clear w5' f5 R3 HS3
           have w6' := R4.c6
           have f6 := R4.fz 6
           have KX4 := KX3.setCell (p := ⟨rl, 6, none⟩) rfl (.bool false)
           have R5 : RD ((X3.setCell ⟨rl, 5, none⟩ (.int .i64 (c2.size : Int))).setCell ⟨rl, 6, none⟩ (.bool false)) G12 rl rd l.most (.slice aX rs.length cX) ⟨c2.g, c2.cnt, c2.size, false⟩ false k5 := R4.set 6 _ rfl
           have HS5 := hSw _ 6 (.bool false) HS4
           generalize X3.setCell ⟨rl, 5, none⟩ (.int .i64 (c2.size : Int)) = X4 at *
           refine lx_r 33 (.pointer (some ⟨rl, 0, none⟩)) HS4 ?_; simp only [lxa, lxb, lxc]
           refine lx_r 34 (.pointer (some ⟨rl, 6, none⟩)) HS4 ?_; simp only [lxa, lxb, lxc]
           refine lx_one 35 (by kernel_rfl) (stepT_store (w' := X4.setCell ⟨rl, 6, none⟩ (.bool false)) rfl rfl rfl ?r35 (fun _ => HS5) ?_)
           case r35 => first | (go_simp; rfl) | go_simp
           refine lx_nil (by kernel_rfl) ?_
           clear w6' f6 R4 HS4 HS5 HSX hSw
           generalize X4.setCell ⟨rl, 6, none⟩ (.bool false) = X5 at *
           have hc2 : (⟨c2.g, c2.cnt, c2.size, false⟩ : Ch) = c2 := by rw [← ti1]
           rw [hc2] at R5
           have hfin : Rgp w G H rl rd ⟨l.most, rs, c2, false⟩ k5 X5 := by
            refine ⟨G12, K1, ⟨⟨_, R5, hRX.keep KX4 (fun i hi e => ?_) (fun _ h => h)⟩, TX.A.hf, fun h9 => ?_, fun i hi => Nat.lt_of_lt_of_le (TX.A.lt i hi) KX4.size⟩, (TX.kp.trans (KX4.mono (fun _ e => Or.inr e))).mono (fun _ h9 => h9.elim Or.inl (fun e => Or.inr (Or.inr e))), TX.Gn, fun i hi => Or.inr (TX.Kn i hi)⟩
            ·have := TX.Kn i hi; have := TX.rll; omega
            ·have := TX.Kn _ h9; have := TX.rll; omega
           obtain ⟨N, HN⟩ : ∃ N, Hid (l.ch.cnt = N) := ⟨_, rfl⟩
           obtain ⟨g, Hg⟩ : ∃ g, Hid (l.ch.g = g) := ⟨_, rfl⟩
           obtain ⟨eR, dnR, kR, HR⟩ : ∃ eR dnR kR, Hid (remAll (segs g 0 (N - 0)) false k5 = (eR, dnR, kR)) := ⟨_, _, _, rfl⟩
           have HQ6 : Hid ((eR, (⟨l.most, rs, c2, dnR⟩ : Lg), kR) = Q) := by
            show _ = _
            have h9 := HQ5.out
            unfold remC at h9
            rw [Hg.out, HN.out] at h9
            have h8 := HR.out
            rw [Nat.sub_zero] at h8
            rw [h8] at h9
            exact h9
           rw [HN.out] at hcnt ⊢
           rw [Hg.out] at hg ⊢
           have HF : Hid (Rgp w G H rl rd ⟨l.most, rs, c2, false⟩ k5 X5) := hfin
           clear HQ5 hfin R5 KX4 KX3 KX2 KX1 KX TX hRX hne hc2 ti1 HB Hz0 hgb hgb0 hgw hgm
           go_upto_region 35 with fail
           go_loopw [12, 13] (fun s12 _ wr => ∃ (j : Nat) (k1 : Dk), s12 = .int .i64 ((j : Int) + 1) ∧ j ≤ N ∧ k1.steps + (N - j) < 999990 ∧ k1.fs.length < 999990 ∧ Hid (Rgp w G H rl rd ⟨l.most, rs, c2, false⟩ k1 wr) ∧ Hid (remAll (segs g j (N - j)) false k1 = (eR, dnR, kR))) (fun s12 _ _ => N + 1 - (intOf s12).toNat)
           case atStart => exact ⟨0, k5, rfl, Nat.zero_le _, by omega, by omega, HF.out, HR.out⟩
           case round =>
            clear HF HR
            obtain ⟨j, k1, rfl, hjN, hs1, hf1, HF, HR⟩ := hrel
            by_cases hle : j + 1 ≤ N
            ·have hz : (j : Int) + 1 ≤ (N : Int) := by omega
             have HRn : Hid (remAll (segN g (j + 1) :: segs g (j + 1) (N - (j + 1))) false k1 = (eR, dnR, kR)) := by
              have h9 := HR.out
              have e : N - j = (N - (j + 1)) + 1 := by omega
              rw [e, segs_cons] at h9
              exact h9
             clear HR
             obtain ⟨G1', H1, hA, hkA, hGA, hHA⟩ := HF.out
             have hbX : Below wr.heap.size wr wr.drew := (Below.refl _ _).drew
             have hAX := hA.below hbX
             obtain ⟨v1, hDX, hRX⟩ := hAX.ex
             dsimp only at hDX hRX
             have HSX : wr.drew.cell? ⟨rl, 0, none⟩ = some (.pointer (some ⟨rd, 0, none⟩)) := hDX.c0
             have hfi := rfile_any g (j + 1) hg (by omega) wr.drew
             have hj1 : ((j + 1 : Nat) : Int) = (j : Int) + 1 := by omega
             rw [hj1] at hfi
             have hnm2 := segN_size g (j + 1) hg (by omega)
             obtain ⟨sn, Hs⟩ : ∃ s, Hid (segN g (j + 1) = s) := ⟨_, rfl⟩
             rw [Hs.out] at hfi hnm2 HRn
             have hrm := fun w' (hr : RefAt w' G1' rd k1) => refRemove_any rd G1' k1 sn (by omega) (by omega) (by omega) w' hr
             have hstp := stpR_gr false k1 sn
             have hst2 := stp_rd false k1 (removeK k1 sn) rfl
             obtain ⟨P, HP⟩ : ∃ P, removeK k1 sn = P := ⟨_, rfl⟩
             have HP' : Hid (removeK k1 sn = P) := HP
             rw [HP] at hstp hst2
             simp only [HP] at hrm
             clear HP
             obtain ⟨en, k2'⟩ := P
             dsimp only at hrm hst2
             rw [hst2] at hstp
             dsimp only at hstp
             have Hst2 : Hid (stp false k1 (en, k2') = (en, (if en = 13 then true else false), k2')) := hst2
             clear hst2 hj1 hA
             have hsh : wr.drew.heap.size = wr.heap.size := rfl
             go_upto_region 37 with fail
             refine wp_region_lx (fun w' => w'.cell? ⟨rl, 0, none⟩ = some (.pointer (some ⟨rd, 0, none⟩))) [] 11 (by kernel_rfl) (by kernel_rfl) ?_
             generalize wr.drew = X at *
             refine lx_r 0 (.pointer (some ⟨rl, 0, none⟩)) HSX ?_; simp only [lxa, lxb, lxc]
             refine lx_r 1 (.pointer (some ⟨rl, 0, none⟩)) HSX ?_; simp only [lxa, lxb, lxc]
             refine lx_r 2 (.pointer (some ⟨rl, 0, none⟩)) HSX ?_; simp only [lxa, lxb, lxc]
             refine lx_r 3 (.pointer (some ⟨rl, 0, none⟩)) HSX ?_; simp only [lxa, lxb, lxc]
             refine lx_r 4 (.pointer (some ⟨rd, 0, none⟩)) HSX ?_ (hv := fun w' hS => by have q := hS; first | (go_simp; rfl) | go_simp); simp only [lxa, lxb, lxc]
             refine lx_r 5 (.int .u64 (g : Int)) HSX ?_; simp only [lxa, lxb, lxc]
             refine lx_r 6 (.int .i64 ((j : Int) + 1)) HSX ?_; simp only [lxa, lxb, lxc]
             refine lx_one 7 (by kernel_rfl) (stepT_call 82 ?a7z rfl rfl rfl ?r7z ?_)
             case r7z => first | (go_simp; rfl) | go_simp
             refine hfi.mono ?_
             rintro e w3 ⟨rfl, hb3⟩
             have hA3 := hAX.below hb3
             have h3 := hDX.below hb3
             have hR3 := hRX.keep (S := fun _ => False) (H' := H1) (Keep.ofBelow hb3) (fun _ _ h => h) (fun _ h => h)
             refine ⟨_, rfl, fun _ => h3.c0, ?_⟩
             simp only [lxa, lxb, lxc]
             refine lx_one 8 (by kernel_rfl) (stepT_call 81 ?a8z rfl rfl rfl ?r8z ?_)
             case r8z => first | (go_simp; rfl) | go_simp
             refine (hrm w3 h3.R).mono ?_
             rintro e w4 ⟨rfl, hp4⟩
             obtain ⟨G4, h4, hk4, hG4⟩ := h3.rp hp4
             refine ⟨_, rfl, fun _ => h4.c0, ?_⟩
             simp only [lxa, lxb, lxc]
             refine lx_one 9 (by kernel_rfl) (stepT_call 74 ?a9z rfl rfl rfl ?r9z ?_)
             case r9z => first | (go_simp; rfl) | go_simp
             refine (rdown_any w4 G4 rl rd l.most v1 c2 false k2' h4 en).mono ?_
             rintro e w5 ⟨rfl, hp5⟩
             have hp35 := Rlp.next hk4 hG4 hp5
             have q5 : w5.cell? ⟨rl, 0, none⟩ = some (.pointer (some ⟨rd, 0, none⟩)) := by
              obtain ⟨_, h5, _, _⟩ := hp5
              exact h5.c0
             refine ⟨_, rfl, fun _ => q5, ?_⟩
             simp only [lxa, lxb, lxc]
             refine lx_r 10 (.int .i64 (en : Int)) q5 ?_; simp only [lxa, lxb, lxc]
             refine lx_nil (by kernel_rfl) ?_
             have hall : Rgp w G H rl rd ⟨l.most, rs, c2, (if en = 13 then true else false)⟩ k2' w5 := Rgp.next hkA hGA hHA (Rgp.from hbX (Rgp.from hb3 (hA3.rlp hR3 hp35)))
             have HFn : Hid (Rgp w G H rl rd ⟨l.most, rs, c2, (if en = 13 then true else false)⟩ k2' w5) := hall
             clear HSX q5 hk4 hG4 hp4 hp5 hp35 hfi hrm h4 h3 hA3 hR3 hDX hRX hAX hall HF hkA hGA hHA
             by_cases h0 : en = 0
             ·subst h0
              rw [if_neg (by decide)] at HFn Hst2
              have HR2 : Hid (remAll (segs g (j + 1) (N - (j + 1))) false k2' = (eR, dnR, kR)) := by
               show _ = _
               rw [← remAll_ok (s := sn) (dn := false) (k := k1) (by rw [HP'.out]; exact Hst2.out)]
               exact HRn.out
              clear HRn Hst2 HP'
              rw [show ((0 : Nat) : Int) = 0 from rfl]
              go_wp2
              exact ⟨⟨j + 1, k2', by first | rfl | go_num, hle, by omega, by omega, HFn.out, HR2.out⟩, by simp [intOf]; omega⟩
             ·have z0' : ¬ (en : Int) = 0 := by omega
              have z0n : ((en : Int) != 0) = true := by simpa using z0'
              have HE : Hid (Q = (en, ⟨l.most, rs, c2, (if en = 13 then true else false)⟩, k2')) := by
               show _ = _
               have hres := HRn.out.symm.trans (remAll_no (s := sn) (dn := false) (k := k1) (by rw [HP'.out]; exact Hst2.out) h0)
               simp only [Prod.mk.injEq] at hres
               obtain ⟨e1, e2, e3⟩ := hres
               rw [← HQ6.out, e1, e2, e3]
              clear HRn Hst2 HP' h0
              go_wp2
              go_ret
              exact ⟨by rw [HE.out]; rfl, by rw [HE.out]; exact HFn.out⟩
            ·have hz : ¬ (j : Int) + 1 ≤ (N : Int) := by omega
             have HE : Hid (Q = (0, ⟨l.most, rs, c2, false⟩, k1)) := by
              show _ = _
              have h9 := HR.out
              rw [show N - j = 0 from by omega] at h9
              have h8 : (0, false, k1) = (eR, dnR, kR) := h9
              simp only [Prod.mk.injEq] at h8
              obtain ⟨e1, e2, e3⟩ := h8
              rw [← HQ6.out, ← e1, ← e2, ← e3]
             go_wp2
             go_ret
             exact ⟨by rw [HE.out]; rfl, by rw [HE.out]; exact HF.out⟩
          ·have z0' : ¬ (en : Int) = 0 := by omega
           have z0n : ((en : Int) != 0) = true := by simpa using z0'
           have HE : Hid (Q = (en, ⟨l.most, l.recs, l.ch, (if en = 13 then true else false)⟩, k5)) := by
            show _ = _
            rw [← HQ4.out]
            unfold rb4L
            rw [if_pos h0]
           clear HQ4 h0
           go_wp2
           go_ret
           exact ⟨by rw [HE.out]; rfl, by rw [HE.out]; exact T12.out⟩
         ·have z0' : ¬ (en : Int) = 0 := by omega
          have z0n : ((en : Int) != 0) = true := by simpa using z0'
          have z0 : ((en : Int) == 0) = false := by simpa using z0'
          clear z0'
          have HE : Hid (Q = (en, ⟨l.most, l.recs, l.ch, (if en = 13 then true else false)⟩, k4)) := by
           show _ = _
           rw [← HQ3.out]
           unfold rb3L
           rw [if_pos h0]
          clear HQ3 h0
          go_wp2
          go_ret
          exact ⟨by rw [HE.out]; rfl, by rw [HE.out]; exact T10.out⟩
        ·have z0' : ¬ (en : Int) = 0 := by omega
         have z0n : ((en : Int) != 0) = true := by simpa using z0'
         have z0 : ((en : Int) == 0) = false := by simpa using z0'
         clear z0'
         by_cases h8 : en = 8
         ·subst h8
          rw [if_neg (by decide)] at T8 HQ2
          have HE : Hid (Q = ((undoL c2 true k3).1, ⟨l.most, l.recs, l.ch, (undoL c2 true k3).2.1⟩, (undoL c2 true k3).2.2)) := by
           show _ = _
           rw [← HQ2.out, room2_undo]
           unfold rb2L
           rw [if_pos (undo_ne0 c2 true k3)]
          have hun := rundo_any w8 G8 rl rd l.most v l.ch k3 T8.L rh l.most vh8 c2 false hDh8.blk ⟨hDh8.nf, T8.ne⟩ true hgc (by omega) (by omega) (by omega)
          generalize undoL c2 true k3 = U at *
          clear HQ2 hDh8 z0 z0n
          have z8 : ((8 : Nat) : Int) = 8 := rfl
          go_wp2_with (first
           | (go_at_call 77; refine hun.mono ?_; clear hun; rintro e w9 ⟨rfl, hp9⟩))
          go_ret
          obtain ⟨G9, T9⟩ := T8.callL hp9
          exact ⟨by rw [HE.out]; rfl, by rw [HE.out]; exact T9.out⟩
         ·have z8 : ((en : Int) == 8) = false := by rw [beq_eq_false_iff_ne]; omega
          have z8' : ¬ (en : Int) = 8 := by omega
          have HE : Hid (Q = (en, ⟨l.most, l.recs, l.ch, (if en = 13 then true else false)⟩, k3)) := by
           show _ = _
           rw [← HQ2.out, room2_id h8]
           unfold rb2L
           rw [if_pos h0]
          clear HQ2 h0 h8 hDh8
          go_wp2
          go_ret
          exact ⟨by rw [HE.out]; rfl, by rw [HE.out]; exact T8.out⟩
       ·have z0' : ¬ (en : Int) = 0 := by omega
        have z0n : ((en : Int) != 0) = true := by simpa using z0'
        have HE : Hid (Q = (en, ⟨l.most, l.recs, l.ch, dn2⟩, k2)) := by
         show _ = _
         rw [← HQs.out, HP'.out, room1_id sn8]
         unfold rb1L
         rw [if_pos h0]
        clear HQs HP' sn8 h0
        go_wp2
        go_ret
        exact ⟨by rw [HE.out]; rfl, by rw [HE.out]; exact T5.out⟩
end Go.Proofs.YtikkieaokfailaaGreatDoor

namespace Go.Proofs.YtikkieaokfailaaGreatDoor
open Go.RowKit Go.Joins
structure LoR (W : World) (sb d rd pn lb rl i : Nat) (w : World) : Prop where
 ex : ∃ l k, Sx W.heap.size w sb d rd pn (12 * i) [] (fun _ => False) (.pointer (some ⟨lb, 0, none⟩)) (.pointer (some ⟨rl, 0, none⟩)) l k l k ∧ Po (i + 1) l k
 bl : Below W.heap.size W w
structure LoI (W : World) (sb d rd pn lb rl m : Nat) (l : Lg) (k : Dk) (v1 : Value) (rs : List (List Int)) (j : Nat) (lv : Value) (w : World) : Prop where
 ex : ∃ T Z Z1, Sx W.heap.size w sb d rd pn (m + j) T Z (.pointer (some ⟨lb, 0, none⟩)) (.pointer (some ⟨rl, 0, none⟩)) l k l k ∧ T.length = j ∧ T.map Lt.ys = rs.take j ∧ w.ownsRow 0 29 1 lv j (T.map Lt.v) ∧ (∀ g, lv.ownBlock = some g → Z g ∧ W.heap.size ≤ g) ∧ RcA w Z1 v1 rs ∧ ∀ g, Z1 g → Z g ∧ W.heap.size ≤ g ∧ ¬ lv.ownBlock = some g
 bl : Below W.heap.size W w
theorem rcA_sl {w : World} {H : Nat → Prop} {v : Value} {rs : List (List Int)} (h : RcA w H v rs) : ∃ a c, v = .slice a rs.length c := by
 obtain ⟨⟨vs, ov, _⟩, _⟩ := h
 exact own_sl ov
theorem atL_len {l : Lg} (h : RcS l.recs) (z : Int) : ((atL l z).getD []).length ≤ 100000 := by
 unfold atL
 split
 ·exact Nat.zero_le _
 ·cases e : l.recs[z.toNat]? with
  | none => exact Nat.zero_le _
  | some r => have := h r (List.mem_of_getElem? e); show r.length ≤ _; omega
theorem sk_low {B : Nat} {Z : Nat → Prop} {w w' : World} (hk : Keep (Sk B Z) w w') (hB : B ≤ w.heap.size) : Below B w w' := hk.below hB fun _ h => h.1
set_option maxRecDepth 100000 in
set_option maxHeartbeats 8000000 in
theorem logOwn_any (a : Option Addr) (n c : Nat) (W : World) (hO : SORd W a n c) (hP : Pw W) :
  Calls Tryz.prog 7 #[.slice a n c] W fun e w' => e = .returned (.bool true) ∧ Below W.heap.size W w' := by
 have HO : Hid (SORd W a n c) := hO
 have hZ : (n : Int) ≤ 9223372036854775807 := by have := hO.cap; have := hO.most; omega
 have hfr := fresh_any 8000 (by omega) 100 W hP hP.at
 obtain ⟨l0, k0, he, hPo⟩ := own_open
 rw [he] at hfr
 dsimp only at hfr
 clear hO hP he
 go_enter Tryz.func7, Tryz.ntmps7
 go_upto_region 4 with (first
  | (go_at_call 9; refine hfr.mono ?_; clear hfr; rintro e w1 ⟨sb, d, rd, rfl, hS1, hb1⟩; have hw := swakes_any w1 hS1.pw)
  | (go_at_call 11; refine hw.mono ?_; clear hw; rintro e w2 ⟨rfl, hb2⟩))
 have hB2 : Below W.heap.size W w2 := hb1.trans (hb2.mono hb1.size)
 obtain ⟨pl, pr, hX⟩ := (hS1.below hb2).sx hB2.size
 obtain ⟨V, hV⟩ : ∃ V, (w2.alloc (.cells #[.slice none 0 0, .slice none 0 0] 73)).alloc (.cells #[.slice none 0 0, .slice none 0 0, .slice none 0 0, .slice none 0 0, .int .i64 0] 76) = V := ⟨_, rfl⟩
 have hbV : Below W.heap.size W V := by rw [← hV]; exact (hB2.alloc hB2.size _).alloc (by have := hB2.size; simp; omega) _
 rw [hV] at hX
 obtain ⟨_, _, lb, rfl, _⟩ := hX.log
 obtain ⟨_, _, rl, rfl, _⟩ := hX.rlog
 have HR0 : Hid (LoR W sb d rd w2.heap.size lb rl 0 V) := ⟨⟨l0, k0, hX, hPo⟩, hbV⟩
 clear hX hPo hS1 hb1 hb2 hB2 hbV
 go_wp2_with fail
 clear hV
 generalize w2.heap.size = pn at *
 go_loopg [7] 60 (fun kx s7 wr => ∃ i : Nat, s7 = .int .i64 i ∧ i + kx = 60 ∧ Hid (LoR W sb d rd pn lb rl i wr))
 case atStart => exact ⟨0, rfl, rfl, HR0⟩
 case round =>
  clear HR0
  obtain ⟨i, rfl, hik, HR⟩ := hrel
  obtain ⟨ko, hko⟩ : ∃ ko, ko = gk := ⟨_, rfl⟩
  by_cases h1 : i < n ∧ i < 60
  ·obtain ⟨h1, h2⟩ := h1
   have h1z : (i : Int) < (n : Int) := by omega
   have h2z : (i : Int) < 60 := by omega
   obtain ⟨b, off, rfl, hce⟩ := HO.out.flat (by omega)
   obtain ⟨Do, ar, nr, cr, xs, al, nl, cl, ls, Nn, ak, nk, ck, zs, hop⟩ := hce i h1
   clear hce
   have hat : ∀ w', Below W.heap.size W w' → SOpAt w' b (off + i * 5) Do ar nr cr xs al nl cl ls Nn ak nk ck zs := fun w' hb => hop.below hb
   clear hop
   obtain ⟨l, k, hS, hPo⟩ := HR.out.ex
   have hbl := HR.out.bl
   have c0 := (hat wr hbl).c0
   by_cases hdo : Do = 4
   ·subst hdo
    have c2 := (hat wr hbl).c2
    have htw := twins_any al nl cl ls wr (hat wr hbl).hL
    go_upto_region 12 with (first
     | (go_at_call 28; refine htw.mono ?_; clear htw; rintro e w1 ⟨v1, rfl, hA1, hf1⟩))
    have hS1 := hS.more (S := fun _ => False) (Keep.ofBelow hf1) (fun _ e => e.elim)
    have hb1 := hbl.trans (hf1.mono hbl.size)
    have hsz := hbl.size
    have htl := tw_len ls
    have htr := tw_rl ls
    obtain ⟨a1, cc1, rfl⟩ := rcA_sl hA1
    obtain ⟨rs, Hrs⟩ : ∃ rs, Hid (tw ls = rs) := ⟨_, rfl⟩
    rw [Hrs.out] at hA1 htl htr ⊢
    obtain ⟨N, HN⟩ : ∃ N, Hid (rs.length = N) := ⟨_, rfl⟩
    have HI0 : Hid (LoI W sb d rd pn lb rl (12 * i) l k (.slice a1 rs.length cc1) rs 0 (.slice none 0 0) w1) :=
     ⟨⟨[], _, _, hS1, rfl, rfl, World.ownsRow_nil _ _ _ _, fun g h9 => (by cases h9), hA1, fun g hg => ⟨Or.inr hg, (by omega), fun h9 => (by cases h9)⟩⟩, hb1⟩
    have hPL := hPo.lg
    rw [HN.out] at htl HI0 ⊢
    clear hS1 hA1 hf1 hS c0 c2 hb1 hbl
    go_upto_region 13 with fail
    go_loopg [8, 10] N (fun kx s8 s10 wr => ∃ j : Nat, s10 = .int .i64 j ∧ j + kx = N ∧ Hid (LoI W sb d rd pn lb rl (12 * i) l k (.slice a1 N cc1) rs j s8 wr))
    case atStart => exact ⟨0, rfl, by omega, HI0⟩
    case round =>
     clear HI0
     obtain ⟨j, rfl, hjk, HJ⟩ := hrel
     obtain ⟨T, Z, Z1, hS, hTl, hTy, ov, hvz, hRc, hz1⟩ := HJ.out.ex
     have hbl := HJ.out.bl
     have hjN : j ≤ N := by omega
     by_cases hlt : j < N
     ·have hcl : (j : Int) < (N : Int) := by omega
      obtain ⟨b1, off1, rfl, hce⟩ := (hRc.rrd HN.out (by omega)).flat (by omega)
      obtain ⟨aj, nj, cj, hcj, hrj⟩ := hce j hlt
      clear hce
      have hnj : nj ≤ 200 := by
       have := hrj.len
       have := htr (rs.getD j []) (by rw [List.getD_eq_getElem?_getD, List.getElem?_eq_getElem (by rw [HN.out]; exact hlt)]; exact List.getElem_mem _)
       omega
      obtain ⟨av, cv, hv⟩ := own_sl ov
      subst hv
      have hle := hS.lend (by omega) aj nj cj _ hrj (by omega)
      have HTy : Hid (T.map Lt.ys = rs.take j) := hTy
      clear hTy hrj
      go_wp2_with (first
       | (go_at_call 31; refine hle.mono ?_; clear hle; rintro e w5 ⟨g5, cap5, rfl, hS5, hk5⟩; have ov5 := own_keep ov hk5 (fun g hg hs => hs.2 (hvz g hg).1))
       | (at_builtin; refine wp_appRow rfl (.tmp 59) (.tmp 66) rfl 0 (.slice av j cv) j (T.map Lt.v) rfl ov5 (some ⟨g5, 0, none⟩) nj cap5 rfl (by omega) (Nat.zero_le _) ?_; intro v6 w6 o6 hk6 hwh6; obtain ⟨a6, c6, rfl⟩ := own_sl o6))
      go_roundg (gk - 1)
      case measure => omega
      case rel =>
       have h5s := hk5.size
       have hb5 := hbl.trans (sk_low hk5 hbl.size)
       have hb6 := hb5.trans (hk6.low hb5.size (fun g hg => (hvz g hg).2))
       have hRc6 := (hRc.keep hk5 (fun g hg hs => hs.2 (hz1 g hg).1) (fun _ h => h)).keep hk6 (fun g hg e => (hz1 g hg).2.2 e) (fun _ h => h)
       have hzl : ∀ g, Z g → g < w5.heap.size := fun g hg => hS5.zlt hg
       have hty : (T ++ [(⟨g5, nj, cap5, rs.getD j []⟩ : Lt)]).map Lt.ys = rs.take (j + 1) := by
        rw [List.map_append, HTy.out, List.take_add_one, List.getD_eq_getElem?_getD, List.getElem?_eq_getElem (by rw [HN.out]; exact hlt)]
        rfl
       refine ⟨j + 1, by go_num, by omega, ⟨_, _, Z1, hS5.more hk6 hvz, by rw [List.length_append, hTl]; rfl, hty, by rw [List.map_append]; exact o6, fun g hg => ?_, hRc6, fun g hg => ⟨Or.inl (hz1 g hg).1, (hz1 g hg).2.1, fun e => ?_⟩⟩, hb6⟩
       ·rcases hwh6 with h9 | ⟨g9, h9, h10⟩
        ·have := hvz g (by rw [← h9]; exact hg)
         exact ⟨Or.inl this.1, this.2⟩
        ·rw [h9] at hg
         injection hg with hg
         subst hg
         obtain ⟨cur, e⟩ := own_blkT o6 h9
         exact ⟨Or.inr ⟨by omega, (Array.getElem?_eq_some_iff.1 e).1⟩, by have := hb5.size; omega⟩
       ·rcases hwh6 with h9 | ⟨g9, h9, h10⟩
        ·exact (hz1 g hg).2.2 (by rw [← h9]; exact e)
        ·rw [h9] at e
         injection e with e
         subst e
         have := hzl _ (hz1 _ hg).1
         omega
     ·have hcl : ¬ (j : Int) < (N : Int) := by omega
      obtain rfl : j = N := by omega
      obtain ⟨av, cv, hv⟩ := own_sl ov
      subst hv
      rw [List.take_of_length_le (by rw [HN.out]; exact Nat.le_refl _)] at hTy
      obtain ⟨hrr, hrn⟩ := hS.rrd ov hTy hTl (by omega)
      obtain ⟨F, H, lb1, e1, hL, hlt1, go1⟩ := hS.log
      injection e1 with e1; injection e1 with e1; injection e1 with e1; subst e1
      have hst := hPo.st
      have hfl := hPo.fl
      have hcn := hPL.cnt
      have hmo := hPL.most
      have q1 : wr.cell? ⟨sb, 1, none⟩ = some (.pointer (some ⟨lb, 0, none⟩)) := by rw [cell_of_block hS.blk]; rfl
      have hreb := srebase_any wr F H lb d l k hL hPL.g (by omega) (by omega) av j cv rs hrr (hrn _ (fun t ht e => by
       rcases e with e | e | e
       ·exact (hlt1 _ (Or.inl e)).2.2.2 t ht rfl
       ·exact (hlt1 _ (Or.inr (Or.inr e))).2.2.2 t ht rfl
       ·have := hS.tlt ht; omega) (fun g hg e => by
       have hz := hvz g hg
       rcases e with e | e | e
       ·exact (hlt1 _ (Or.inl e)).2.2.1 hz.1
       ·exact (hlt1 _ (Or.inr (Or.inr e))).2.2.1 hz.1
       ·have := hS.zlt hz.1; omega)) (by omega) (by omega) (by omega)
      clear hrn hrr
      go_upto_region 17 with (first
       | (go_at_call 29; refine hreb.mono ?_; clear hreb; rintro e w2 ⟨rfl, hp1⟩))
      obtain ⟨hS2, hk2⟩ := go1 _ _ _ hp1
      clear go1 hp1 hlt1 hL q1
      have hRc2 := hRc.keep hk2 (fun g hg hs => hs.2 (hz1 g hg).1) (fun _ h => h)
      have hbl2 := hbl.trans (sk_low hk2 hbl.size)
      obtain ⟨G, H2, rl1, e1, hRL, hlt2, go2⟩ := hS2.rlog
      injection e1 with e1; injection e1 with e1; injection e1 with e1; subst e1
      have q3 : w2.cell? ⟨sb, 3, none⟩ = some (.pointer (some ⟨rl, 0, none⟩)) := by rw [cell_of_block hS2.blk]; rfl
      have hrreb := rrebase_any w2 G H2 rl rd l k hRL hPL.g (by omega) (by omega) a1 j cc1 rs (hRc2.rrd HN.out (by omega)) (hRc2.rnot (S := fun i => G i ∨ i = rl) HN.out (fun g hg e => by
       have hz := (hz1 g hg).1
       rcases e with e | e
       ·exact (hlt2 _ (Or.inl e)).2.2.1 hz
       ·exact (hlt2 _ (Or.inr (Or.inr e))).2.2.1 hz)) (by omega) (by omega) (by omega)
      go_upto_region 20 with (first
       | (go_at_call 32; refine hrreb.mono ?_; clear hrreb; rintro e w3 ⟨rfl, hp2⟩))
      obtain ⟨hS3, hk3⟩ := go2 _ _ _ hp2
      clear go2 hp2 hlt2 hRL q3
      have hbl3 := hbl2.trans (sk_low hk3 hbl2.size)
      have hPo3 := hPo.rebase (by omega) hS.hr rs htr (by rw [HN.out]; omega)
      clear hRc hRc2 hS hS2 hk2 hk3 hbl hbl2 hz1 hvz ov hTy hPo hPL hst hfl hcn hmo
      generalize (rebaseT l k rs).2.2 = k2 at *
      generalize (rebaseT l k rs).2.1 = l2 at *
      have hSt := (hS3.zed (Z' := fun _ => False) (fun _ h => h.elim)).up (m' := 12 * (i + 1)) (by omega)
      obtain ⟨F9, H9, lb9, e9, hL9, _, _⟩ := hSt.log
      injection e9 with e9; injection e9 with e9; injection e9 with e9; subst e9
      have q9 : w3.cell? ⟨sb, 1, none⟩ = some (.pointer (some ⟨lb, 0, none⟩)) := by rw [cell_of_block hSt.blk]; rfl
      have hsa := sat_any w3 F9 H9 lb d _ _ ((i : Int) % 5) (by omega) hL9 (fun r hr => by have := hPo3.rc r hr; omega)
      go_upto_region 21 with (first
       | (go_at_call 27; refine hsa.mono ?_; clear hsa; rintro e w7 ⟨u7, rfl, o7, hbd7, hb7⟩))
      have hS7 := hSt.more (S := fun _ => False) (Keep.ofBelow hb7) (fun _ e => e.elim)
      have hbl7 := hbl3.trans (hb7.mono hbl3.size)
      have hln7 : ((atL _ ((i : Int) % 5)).getD []).length ≤ 100000 := atL_len hPo3.rc _
      have htk := hS7.take u7 _ (Ow.ofFrom o7 hbd7) (fun g hg => by have h9 := o7.lt g hg; exact ⟨Or.inr h9, by have := hbl3.size; omega⟩) hln7
      go_wp2_with (first
       | (go_at_call 34; refine htk.mono ?_; clear htk; rintro e w8 ⟨r8, rfl, hS8, hb8⟩))
      have HR8 : Hid (LoR W sb d rd pn lb rl (i + 1) w8) := ⟨⟨_, _, hS8, hPo3⟩, hbl7.trans hb8⟩
      go_roundg (ko - 1)
      case measure => omega
      case rel => exact ⟨i + 1, by go_num, by omega, HR8⟩
   ·have hdn : ¬ Do = 4 := hdo
    have hok := hPo.lg.ok (by omega)
    have hst := hPo.st
    have hfl := hPo.fl
    have hz0 := hPo.lg.z0
    have hri := hS.hr
    go_upto_region 18 with fail
    refine wp_region_lx (fun w' => w'.cell? ⟨sb, 1, none⟩ = some (.pointer (some ⟨lb, 0, none⟩)) ∧ Below W.heap.size W w') [] 13 (by kernel_rfl) (by kernel_rfl) ?_
    have hS1 := hS.below ((Below.refl wr.heap.size wr).drew)
    have hb1 := hbl.drew
    clear hS hbl c0
    generalize wr.drew = X at *
    have HS : X.cell? ⟨sb, 1, none⟩ = some (.pointer (some ⟨lb, 0, none⟩)) ∧ Below W.heap.size W X := ⟨by rw [cell_of_block hS1.blk]; rfl, hb1⟩
    refine lx_r 0 _ HS ?_; simp only [lxa, lxb, lxc]
    refine lx_r 1 _ HS ?_; simp only [lxa, lxb, lxc]
    refine lx_r 2 _ HS ?_; simp only [lxa, lxb, lxc]
    refine lx_r 3 (.pointer (some ⟨lb, 0, none⟩)) HS ?_ (hv := fun w' hS => by have q := hS.1; first | (go_simp; rfl) | go_simp); simp only [lxa, lxb, lxc]
    refine lx_r 4 _ HS ?_; simp only [lxa, lxb, lxc]
    refine lx_r 5 _ HS ?_; simp only [lxa, lxb, lxc]
    refine lx_r 6 _ HS ?_; simp only [lxa, lxb, lxc]
    refine lx_r 7 (.pointer (some ⟨b, off + i * 5, none⟩)) HS ?_; simp only [lxa, lxb, lxc]
    refine lx_r 8 (.pointer (some ⟨b, off + i * 5 + 1, none⟩)) HS ?_; simp only [lxa, lxb, lxc]
    refine lx_r 9 (.slice ar nr cr) HS ?_ (hv := fun w' hS => by have q := (hat _ hS.2).c1; first | (go_simp; rfl) | go_simp); simp only [lxa, lxb, lxc]
    refine lx_one 10 (by kernel_rfl) (stepT_call 17 ?a10 rfl rfl rfl ?r10 ?_)
    case r10 => first | (go_simp; rfl) | go_simp
    refine (few200O ar nr cr xs X (hat X hb1).hR).mono ?_
    rintro e w2 ⟨a2, n2, c2, rfl, hn2, _, hr2, _, hf2⟩
    have hS2 := hS1.below hf2
    have hb2 := hb1.trans (hf2.mono hb1.size)
    refine ⟨_, rfl, fun _ => ⟨by rw [cell_of_block hS2.blk]; rfl, hb2⟩, ?_⟩
    simp only [lxa, lxb, lxc]
    refine lx_one 11 (by kernel_rfl) (stepT_call 31 ?a11 rfl rfl rfl ?r11 ?_)
    case r11 => first | (go_simp; rfl) | go_simp
    refine (hS2.lend (by omega) a2 n2 c2 (xs.take 200) hr2 (by omega)).mono ?_
    rintro e w3 ⟨g3, cap3, rfl, hS3, hk3⟩
    have hb3 := hb2.trans (sk_low hk3 hb2.size)
    refine ⟨_, rfl, fun _ => ⟨by rw [cell_of_block hS3.blk]; rfl, hb3⟩, ?_⟩
    simp only [lxa, lxb, lxc]
    refine lx_one 12 (by kernel_rfl) (stepT_call 22 ?a12 rfl rfl rfl ?r12 ?_)
    case r12 => first | (go_simp; rfl) | go_simp
    have hmm : (⟨g3, n2, cap3, xs.take 200⟩ : Lt) ∈ [] ++ [(⟨g3, n2, cap3, xs.take 200⟩ : Lt)] := List.mem_append_right _ (List.mem_singleton.2 rfl)
    have hr3 := hS3.tr hmm
    obtain ⟨F, H, lb1, e1, hL, hlt1, go1⟩ := hS3.log
    injection e1 with e1; injection e1 with e1; injection e1 with e1; subst e1
    refine (sappend_any w3 F H lb d l k hL hok (by omega) (by omega) (some ⟨g3, 0, none⟩) n2 cap3 (xs.take 200) hr3 (fun ad e => by
     injection e with e
     subst e
     exact ⟨fun hf => (hlt1 _ (Or.inl hf)).2.2.2 _ hmm rfl, fun hf => (hlt1 _ (Or.inr (Or.inr hf))).2.2.2 _ hmm rfl⟩)).mono ?_
    rintro e w4 ⟨rfl, hp4⟩
    obtain ⟨hS4, hk4⟩ := go1 _ _ _ hp4
    have hb4 := hb3.trans (sk_low hk4 hb3.size)
    refine ⟨_, rfl, fun _ => ⟨by rw [cell_of_block hS4.blk]; rfl, hb4⟩, ?_⟩
    simp only [lxa, lxb, lxc]
    refine lx_nil (by kernel_rfl) ?_
    clear HS hS1 hb1 hf2 hr2 hS2 hb2 hk3 hb3 hr3 hlt1 go1 hL hp4 hk4 hS3
    go_upto_region 19 with fail
    refine wp_region_lx (fun w' => w'.cell? ⟨sb, 3, none⟩ = some (.pointer (some ⟨rl, 0, none⟩)) ∧ Below W.heap.size W w') [] 11 (by kernel_rfl) (by kernel_rfl) ?_
    have hS5 := hS4.below ((Below.refl w4.heap.size w4).drew)
    have hb5 := hb4.drew
    clear hS4 hb4
    generalize w4.drew = X2 at *
    have HS5 : X2.cell? ⟨sb, 3, none⟩ = some (.pointer (some ⟨rl, 0, none⟩)) ∧ Below W.heap.size W X2 := ⟨by rw [cell_of_block hS5.blk]; rfl, hb5⟩
    refine lx_r 0 _ HS5 ?_; simp only [lxa, lxb, lxc]
    refine lx_r 1 _ HS5 ?_; simp only [lxa, lxb, lxc]
    refine lx_r 2 _ HS5 ?_; simp only [lxa, lxb, lxc]
    refine lx_r 3 (.pointer (some ⟨rl, 0, none⟩)) HS5 ?_ (hv := fun w' hS => by have q := hS.1; first | (go_simp; rfl) | go_simp); simp only [lxa, lxb, lxc]
    refine lx_r 4 _ HS5 ?_; simp only [lxa, lxb, lxc]
    refine lx_r 5 _ HS5 ?_; simp only [lxa, lxb, lxc]
    refine lx_r 6 (.pointer (some ⟨b, off + i * 5, none⟩)) HS5 ?_; simp only [lxa, lxb, lxc]
    refine lx_r 7 (.pointer (some ⟨b, off + i * 5 + 1, none⟩)) HS5 ?_; simp only [lxa, lxb, lxc]
    refine lx_r 8 (.slice ar nr cr) HS5 ?_ (hv := fun w' hS => by have q := (hat _ hS.2).c1; first | (go_simp; rfl) | go_simp); simp only [lxa, lxb, lxc]
    refine lx_one 9 (by kernel_rfl) (stepT_call 17 ?b9 rfl rfl rfl ?s9 ?_)
    case s9 => first | (go_simp; rfl) | go_simp
    refine (few200O ar nr cr xs X2 (hat X2 hb5).hR).mono ?_
    rintro e w6 ⟨a6, n6, c6, rfl, hn6, _, hr6, ha6, hf6⟩
    have hS6 := hS5.below hf6
    have hb6 := hb5.trans (hf6.mono hb5.size)
    refine ⟨_, rfl, fun _ => ⟨by rw [cell_of_block hS6.blk]; rfl, hb6⟩, ?_⟩
    simp only [lxa, lxb, lxc]
    refine lx_one 10 (by kernel_rfl) (stepT_call 33 ?b10 rfl rfl rfl ?s10 ?_)
    case s10 => first | (go_simp; rfl) | go_simp
    obtain ⟨G, H2, rl1, e1, hRL, hlt2, go2⟩ := hS5.rlog
    injection e1 with e1; injection e1 with e1; injection e1 with e1; subst e1
    refine (rappend_any w6 G H2 rl rd l k (hRL.below hf6) hok hz0 (by omega) (by omega) a6 n6 c6 (xs.take 200) hr6 (fun ad e => ⟨fun hf => by have := (hlt2 _ (Or.inl hf)).2.1; have := ha6 ad e; omega, fun hf => by have := (hlt2 _ (Or.inr (Or.inr hf))).2.1; have := ha6 ad e; omega⟩)).mono ?_
    rintro e w7 ⟨rfl, hp7⟩
    obtain ⟨hS7, hk7⟩ := go2 _ _ _ (Rgp.from hf6 hp7)
    have hb7 := hb5.trans (sk_low hk7 hb5.size)
    have hPo7 := hPo.append hri (xs.take 200) (by rw [List.length_take]; omega)
    refine ⟨_, rfl, fun _ => ⟨by rw [cell_of_block hS7.blk]; rfl, hb7⟩, ?_⟩
    simp only [lxa, lxb, lxc]
    refine lx_nil (by kernel_rfl) ?_
    clear HS5 hS5 hb5 hf6 hr6 ha6 hS6 hb6 hlt2 go2 hRL hp7 hk7 hPo hok hst hfl hz0
    generalize (appendT l k (xs.take 200)).2.2 = k2 at *
    generalize (appendT l k (xs.take 200)).2.1 = l2 at *
    have hSt := (hS7.zed (Z' := fun _ => False) (fun _ h => h.elim)).up (m' := 12 * (i + 1)) (by omega)
    obtain ⟨F9, H9, lb9, e9, hL9, _, _⟩ := hSt.log
    injection e9 with e9; injection e9 with e9; injection e9 with e9; subst e9
    have q9 : w7.cell? ⟨sb, 1, none⟩ = some (.pointer (some ⟨lb, 0, none⟩)) := by rw [cell_of_block hSt.blk]; rfl
    have hsa := sat_any w7 F9 H9 lb d _ _ ((i : Int) % 5) (by omega) hL9 (fun r hr => by have := hPo7.rc r hr; omega)
    go_upto_region 21 with (first
     | (go_at_call 27; refine hsa.mono ?_; clear hsa; rintro e w9 ⟨u7, rfl, o7, hbd7, hf7⟩))
    have hS9 := hSt.more (S := fun _ => False) (Keep.ofBelow hf7) (fun _ e => e.elim)
    have hbl7 := hb7.trans (hf7.mono hb7.size)
    have hln7 : ((atL _ ((i : Int) % 5)).getD []).length ≤ 100000 := atL_len hPo7.rc _
    have htk := hS9.take u7 _ (Ow.ofFrom o7 hbd7) (fun g hg => by have h9 := o7.lt g hg; exact ⟨Or.inr h9, by have := hb7.size; omega⟩) hln7
    go_wp2_with (first
     | (go_at_call 34; refine htk.mono ?_; clear htk; rintro e w8 ⟨r8, rfl, hS8, hb8⟩))
    have HR8 : Hid (LoR W sb d rd pn lb rl (i + 1) w8) := ⟨⟨_, _, hS8, hPo7⟩, hbl7.trans hb8⟩
    go_roundg (ko - 1)
    case measure => omega
    case rel => exact ⟨i + 1, by go_num, by omega, HR8⟩
  ·have hj : Hid (∃ j, LoR W sb d rd pn lb rl j wr ∧ j ≤ 60) := ⟨i, HR.out, by omega⟩
   have h2z : (i : Int) < (n : Int) → ¬ (i : Int) < 60 := by omega
   obtain ⟨j, hLR, hj⟩ := hj.out
   obtain ⟨l, k, hS, hPo⟩ := hLR.ex
   have hbl := hLR.bl
   have hbk := hS.back (by omega)
   have hfl := hPo.fl
   have hrc := hPo.rc
   have hrn := hPo.lg.recs
   clear hLR hS hPo HR
   by_cases h1z : (i : Int) < (n : Int)
   all_goals first | (replace h2z := h2z h1z) | clear h2z
   all_goals clear hik h1
   all_goals
    go_wp2_with (first
     | (go_at_call 35; refine hbk.mono ?_; clear hbk; rintro e w4 ⟨rfl, hb4, Q, fv, wv, fs, ws, ys, Nb, hBook, hBF, hgo⟩)
     | (go_at_call 36; refine (bookClose_any (pn + 1) Nb fv wv fs ws ys w4 hBook).mono ?_; rintro e w5 ⟨rfl, hk5⟩; obtain ⟨hSd, hb5⟩ := hgo w5 (hk5.mono hBF); have hss := sideSame_any W.heap.size sb d rd w5 (some l) k hSd (by omega) (fun l' e => by injection e with e; subst e; exact ⟨by omega, fun r hr => by have := hrc r hr; omega⟩))
     | (go_at_call 13; refine hss.mono ?_; clear hss; rintro e w6 ⟨rfl, hb6⟩))
    go_ret
    exact ⟨rfl, ((hbl.trans hb4).trans hb5).trans (hb6.mono ((hbl.trans hb4).trans hb5).size)⟩
end Go.Proofs.YtikkieaokfailaaGreatDoor
