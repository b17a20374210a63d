/- Texts of one seat, one behind the other: DkZb, RlC, RlD, RlE, RlF, RlG. -/
import Derived.Test.YtikkieaokfailaaGreatDoorM8
import Derived.BigQuiet
import Derived.Deep.QuietTactic
import Derived.Deep.CutRange
namespace Go.Proofs.YtikkieaokfailaaGreatDoor
open Go.RowKit Go.Joins
theorem RefAt.setBS {w w0 : World} {G : Nat → Prop} {rd : Nat} {k : Dk} {s : Nm} {f : Fle} {j : Nat} {b' : List Int} {v : Value} {n : Nat} (h : RefAt w0 G rd k) (hb : Below w0.heap.size w0 w) (hix : k.fs[j]? = some (s, f))
  (hv : w.ownsRow w0.heap.size 5 1 v b'.length (bc b')) (hg : ({ k with fs := putL k.fs s ⟨b', n⟩ } : Dk).Good) :
  ∃ g cap, w.cell? ⟨rd, 0, none⟩ = some (.slice (some ⟨g, 0, none⟩) k.fs.length cap) ∧ k.fs.length ≤ cap ∧ (∃ u, w.cell? ⟨g, j * 3 + 1, none⟩ = some u) ∧ w.frozen? ⟨g, j * 3 + 1, none⟩ = false ∧ (w.setCell ⟨g, j * 3 + 1, none⟩ v).cell? ⟨rd, 0, none⟩ = some (.slice (some ⟨g, 0, none⟩) k.fs.length cap) ∧ (w.setCell ⟨g, j * 3 + 1, none⟩ v).cell? ⟨g, j * 3 + 1, none⟩ = some v ∧ (w.setCell ⟨g, j * 3 + 1, none⟩ v).cell? ⟨g, j * 3 + 2, none⟩ = some (.int .i64 (f.safe : Int)) ∧ (w.setCell ⟨g, j * 3 + 1, none⟩ v).frozen? ⟨g, j * 3 + 2, none⟩ = false ∧ Rp w0 G rd { k with fs := putL k.fs s ⟨b', n⟩ } ((w.setCell ⟨g, j * 3 + 1, none⟩ v).setCell ⟨g, j * 3 + 2, none⟩ (.int .i64 (n : Int))) := by
 have hjl : j < k.fs.length := (List.getElem?_eq_some_iff.1 hix).1
 have hlt := h.lt
 have hrise := h.good.rise
 obtain ⟨⟨v0, sl, hblk, hrow, hvG, hlies, hslv⟩, hGrd, _, _⟩ := h
 obtain ⟨g, cap, e, hcap, _, hcs⟩ := row3 hrow (by omega)
 subst e
 have hgl := hrow.lt g rfl
 have hblkw := box_below hblk hb
 have hroww := own_keep (S := fun _ => False) hrow (Keep.ofBelow hb) (fun _ _ h => h)
 obtain ⟨cur, hcur⟩ := own_blk hroww (g := g) rfl
 have hgne : g ≠ rd := fun e => by subst e; rw [hblkw] at hcur; cases hcur
 have hcell := (hb.cell (p := ⟨g, j * 3 + 1, none⟩) hgl.2).trans (hcs j (s, f) hix).2.1
 have hkS1 : Keep (fun i => i = g) w (w.setCell ⟨g, j * 3 + 1, none⟩ v) := (Keep.refl (fun i => i = g) w).setCell (p := ⟨g, j * 3 + 1, none⟩) rfl _
 have hrw1 := own_set hroww (i := j * 3 + 1) v
 have hcur1 := block_setCell (i := j * 3 + 1) hcur v
 have hblk1 := box_keep hblkw hkS1 (fun e => hgne e.symm)
 have hel : j * 3 + 2 < (ev sl k.fs).length := by rw [ev_len]; omega
 have c1 := hrw1.cells (g := g) rfl (j * 3 + 1) v (by rw [List.getElem?_set_self (by omega)])
 have c2 := hrw1.cells (g := g) rfl (j * 3 + 2) (.int .i64 (f.safe : Int)) (by rw [List.getElem?_set_ne (by omega)]; exact (ev_get sl k.fs j (s, f) hix).2.2)
 rw [add_flat, Nat.zero_add] at c1 c2
 refine ⟨g, cap, by rw [cell_of_block hblkw]; rfl, hcap, ⟨_, hcell⟩, unfrozen_of_block hcur _, by rw [cell_of_block hblk1]; rfl, c1, c2, unfrozen_of_block hcur1 _, ?_⟩
 obtain ⟨p, q, hl, hp⟩ := split_at hix
 have hr2 : Rise (p ++ (s, f) :: q) := by rw [← hl]; exact hrise
 have hput : putL k.fs s ⟨b', n⟩ = p ++ (s, ⟨b', n⟩) :: q := by rw [hl]; exact put_mid hr2
 have hnp : ∀ x ∈ p, x.1 ≠ s := fun x hx e => by
  have hnd := rise_nodup hr2
  rw [List.map_append, List.map_cons] at hnd
  have := (List.nodup_append.1 hnd).2.2 x.1 (List.mem_map_of_mem hx) s (List.mem_cons_self ..)
  exact this e
 have hnq : ∀ x ∈ q, x.1 ≠ s := fun x hx e => by
  have hnd := rise_nodup hr2
  rw [List.map_append, List.map_cons] at hnd
  have h2 := (List.nodup_cons.1 (List.nodup_append.1 hnd).2.1).1
  exact h2 (List.mem_map.2 ⟨x, hx, e⟩)
 obtain ⟨sl', hsl'⟩ : ∃ sl' : Nm → Value, sl' = fun t => if t = s then v else sl t := ⟨_, rfl⟩
 have hss : sl' s = v := by rw [hsl']; simp
 have hso : ∀ t, t ≠ s → sl' t = sl t := fun t ht => by rw [hsl']; simp [ht]
 have hone : ∀ t, ∃ a n c, sl' t = .slice a n c := fun t => by
  by_cases h : t = s
  ·rw [h, hss]
   obtain ⟨a, c, e, _⟩ := Rd.ofRowE hv
   exact ⟨a, _, c, e⟩
  ·rw [hso t h]; exact hslv t
 have hkS : Keep (fun i => i = g) w ((w.setCell ⟨g, j * 3 + 1, none⟩ v).setCell ⟨g, j * 3 + 2, none⟩ (.int .i64 (n : Int))) := hkS1.setCell (p := ⟨g, j * 3 + 2, none⟩) rfl _
 have hk0 : Keep (fun i => i = g) w0 ((w.setCell ⟨g, j * 3 + 1, none⟩ v).setCell ⟨g, j * 3 + 2, none⟩ (.int .i64 (n : Int))) := (Keep.ofBelow hb).trans hkS
 have hsz : ((w.setCell ⟨g, j * 3 + 1, none⟩ v).setCell ⟨g, j * 3 + 2, none⟩ (.int .i64 (n : Int))).heap.size = w.heap.size := by simp [World.setCell]
 refine ⟨fun i => G i ∨ (w0.heap.size ≤ i ∧ i < w.heap.size), ⟨⟨.slice (some ⟨g, 0, none⟩) k.fs.length cap, sl', ?_, ?_, ?_, ?_, hone⟩, Or.inl hGrd, ?_, hg⟩, hk0.mono (fun i e => by subst e; exact hvG _ rfl), fun i hi => hi.imp id (fun h => h.1)⟩
 ·exact box_keep hblkw hkS (fun e => hgne e.symm)
 ·show World.ownsRow _ _ _ _ _ (putL k.fs s ⟨b', n⟩).length (ev sl' (putL k.fs s ⟨b', n⟩))
  have hlen : (putL k.fs s ⟨b', n⟩).length = k.fs.length := by rw [hput, hl]; simp
  rw [hlen, hput, show (p ++ (s, (⟨b', n⟩ : Fle)) :: q) = p ++ (s, ⟨(⟨b', f.safe⟩ : Fle).b, n⟩) :: q from rfl, ← ev_setS sl' p q s ⟨b', f.safe⟩ n, ← ev_setB sl sl' p q s f b' v hss (fun x hx => hso _ (hnp x hx)) (fun x hx => hso _ (hnq x hx)), ← hl, hp]
  exact own_set hrw1 _
 ·intro g' hg'
  exact Or.inl (hvG g' hg')
 ·intro x hx
  have hm : x ∈ putL k.fs s ⟨b', n⟩ := hx
  rw [hput] at hm
  rcases List.mem_append.1 hm with hx | hx
  ·rw [hso _ (hnp x hx)]
   have hin : x ∈ k.fs := by rw [hl]; exact List.mem_append_left _ hx
   refine (hlies x hin).keep hk0 (fun g' hg' e => ?_) (fun _ h => Or.inl h)
   obtain ⟨cur', h2⟩ := own_blk (hlies x hin).1 hg'
   subst e
   obtain ⟨cur2, h3⟩ := own_blk hrow (g := g') rfl
   rw [h3] at h2; cases h2
  ·rcases List.mem_cons.1 hx with rfl | hx
   ·show Lies _ _ (sl' s) ⟨b', n⟩
    rw [hss]
    refine ⟨own_weak (own_keep hv hkS (fun g' hg' e => ?_)) (Nat.zero_le _), fun g' hg' => Or.inr (hv.lt g' hg')⟩
    have := (hv.lt g' hg').1
    have := hgl.2
    omega
   ·rw [hso _ (hnq x hx)]
    have hin : x ∈ k.fs := by rw [hl]; exact List.mem_append_right _ (List.mem_cons_of_mem _ hx)
    refine (hlies x hin).keep hk0 (fun g' hg' e => ?_) (fun _ h => Or.inl h)
    obtain ⟨cur', h2⟩ := own_blk (hlies x hin).1 hg'
    subst e
    obtain ⟨cur2, h3⟩ := own_blk hrow (g := g') rfl
    rw [h3] at h2; cases h2
 ·intro i hi
  rw [hsz]
  rcases hi with h | h
  ·exact Nat.lt_of_lt_of_le (hlt i h) hb.size
  ·exact h.2
theorem RefAt.rowj {w : World} {G : Nat → Prop} {rd : Nat} {k : Dk} {s : Nm} {f : Fle} {j : Nat} (h : RefAt w G rd k) (hix : k.fs[j]? = some (s, f)) :
  ∃ g cap aj cj, w.cell? ⟨rd, 0, none⟩ = some (.slice (some ⟨g, 0, none⟩) k.fs.length cap) ∧ k.fs.length ≤ cap ∧ w.cell? ⟨g, j * 3, none⟩ = some (.string s) ∧ w.cell? ⟨g, j * 3 + 1, none⟩ = some (.slice aj f.b.length cj) ∧ w.cell? ⟨g, j * 3 + 2, none⟩ = some (.int .i64 (f.safe : Int)) ∧ Lies w G (.slice aj f.b.length cj) f ∧ Rd w aj f.b.length cj f.b ∧ w.frozen? ⟨g, j * 3 + 2, none⟩ = false ∧
   ∀ n : Nat, ({ k with fs := putL k.fs s ⟨f.b, n⟩ } : Dk).Good → Rp w G rd { k with fs := putL k.fs s ⟨f.b, n⟩ } (w.setCell ⟨g, j * 3 + 2, none⟩ (.int .i64 (n : Int))) := by
 have hjl : j < k.fs.length := (List.getElem?_eq_some_iff.1 hix).1
 have hlt := h.lt
 have hrise := h.good.rise
 have hbd := (h.good.each (s, f) (List.mem_of_getElem? hix)).2.2
 obtain ⟨⟨v0, sl, hblk, hrow, hvG, hlies, hslv⟩, hGrd, _, _⟩ := h
 obtain ⟨g, cap, e, hcap, _, hcs⟩ := row3 hrow (by omega)
 subst e
 obtain ⟨cur, hcur⟩ := own_blk hrow (g := g) rfl
 have hgne : g ≠ rd := fun e => by subst e; rw [hblk] at hcur; cases hcur
 have hl := hlies (s, f) (List.mem_of_getElem? hix)
 obtain ⟨aj, cj, hev, _⟩ := Rd.ofRowE hl.1
 obtain ⟨c0, c1, c2⟩ := hcs j (s, f) hix
 dsimp only at c0 c1 c2 hev
 rw [hev] at c1 hl
 refine ⟨g, cap, aj, cj, by rw [cell_of_block hblk]; rfl, hcap, c0, c1, c2, hl, Rd.ofRow hl.1 hbd, unfrozen_of_block hcur _, fun n hg => ?_⟩
 obtain ⟨p, q, hl2, hp⟩ := split_at hix
 have hr2 : Rise (p ++ (s, f) :: q) := by rw [← hl2]; exact hrise
 have hput : putL k.fs s ⟨f.b, n⟩ = p ++ (s, ⟨f.b, n⟩) :: q := by rw [hl2]; exact put_mid hr2
 have hkS : Keep (fun i => i = g) w (w.setCell ⟨g, j * 3 + 2, none⟩ (.int .i64 (n : Int))) := (Keep.refl (fun i => i = g) w).setCell (p := ⟨g, j * 3 + 2, none⟩) rfl _
 have hli : ∀ x ∈ k.fs, Lies (w.setCell ⟨g, j * 3 + 2, none⟩ (.int .i64 (n : Int))) G (sl x.1) x.2 := fun x hin => (hlies x hin).keep hkS (fun g' hg' e => by
  obtain ⟨cur', h2⟩ := own_blk (hlies x hin).1 hg'
  subst e
  rw [hcur] at h2; cases h2) (fun _ h => h)
 refine ⟨G, ⟨⟨.slice (some ⟨g, 0, none⟩) k.fs.length cap, sl, box_keep hblk hkS (fun e => hgne e.symm), ?_, hvG, ?_, hslv⟩, hGrd, fun i hi => Nat.lt_of_lt_of_le (hlt i hi) hkS.size, hg⟩, hkS.mono (fun i e => by subst e; exact hvG _ rfl), fun _ h => Or.inl h⟩
 ·show World.ownsRow _ _ _ _ _ (putL k.fs s ⟨f.b, n⟩).length (ev sl (putL k.fs s ⟨f.b, n⟩))
  have hlen : (putL k.fs s ⟨f.b, n⟩).length = k.fs.length := by rw [hput, hl2]; simp
  rw [hlen, hput, ← ev_setS sl p q s f n, ← hl2, hp]
  exact own_set hrow _
 ·intro x hx
  have hm : x ∈ putL k.fs s ⟨f.b, n⟩ := hx
  rw [hput] at hm
  rcases List.mem_append.1 hm with hx | hx
  ·exact hli x (by rw [hl2]; exact List.mem_append_left _ hx)
  ·rcases List.mem_cons.1 hx with rfl | hx
   ·exact hli (s, f) (by rw [hl2]; exact List.mem_append_right _ (List.mem_cons_self ..))
   ·exact hli x (by rw [hl2]; exact List.mem_append_right _ (List.mem_cons_of_mem _ hx))
set_option maxRecDepth 100000 in
set_option maxHeartbeats 4000000 in
theorem refSync_any (rd : Nat) (G : Nat → Prop) (k : Dk) (s : Nm) (hs : s.size ≤ 9223372036854775807) (hst : k.steps < 1000000) (w : World) (hR : RefAt w G rd k) :
  Calls Tryz.prog 79 #[.pointer (some ⟨rd, 0, none⟩), .string s] w fun e w' => e = .returned (.int .i64 (syncK k s).1) ∧ Rp w G rd (syncK k s).2 w' := by
 have hF := first_any rd G k s hs true w hR
 unfold syncK
 rcases step_first k s (fun _ => 0) (fun k f => { k with fs := putL k.fs s ⟨f.b, f.b.length⟩ }) with ⟨h0, e⟩ | ⟨h0, on, hnm, f, hlk, e⟩
 ·rw [e]
  dsimp only
  obtain ⟨en, hen⟩ : ∃ en, firstK k s true = en := ⟨_, rfl⟩
  rw [hen] at hF h0 ⊢
  have hne : ((en : Int) == 0) = false := by simp; omega
  have hRp := Rp.refl hR
  clear e hen hR
  go_enter Tryz.func79, Tryz.ntmps79
  go_wp2_with (first
   | (go_at_call 55; refine hF.mono ?_; rintro e w1 ⟨rfl, rfl⟩))
  go_ret
  exact ⟨rfl, hRp⟩
 ·rw [e, if_neg (by simp)]
  rw [h0] at hF
  have hP := power_any rd G k hst w hR
  have hpfs := pass_fs k
  have hgp := good_pass hR.good
  have hrise := hR.good.rise
  obtain ⟨_, hsf, hbd⟩ := look_good hR.good hlk
  obtain ⟨P, HPe⟩ : ∃ P, Hid (passK k = P) := ⟨_, rfl⟩
  rw [HPe.out] at hP hpfs hgp ⊢
  obtain ⟨en, k1⟩ := P
  dsimp only at hP hpfs hgp ⊢
  clear e h0 HPe
  by_cases hen : en = 0
  ·subst hen
   rw [if_neg (by simp)]
   dsimp only
   have hlk1 : look k1.fs s = some f := by rw [hpfs]; exact hlk
   obtain ⟨j, hj, hix0, hjl⟩ := ixL_some hlk1 0
   rw [Nat.zero_add] at hj
   have hix : Hid (k1.fs[j]? = some (s, f)) := hix0
   have hA := fun w G hR => at_any rd G k1 s w hR
   rw [hj] at hA
   have hup := used_put k1.fs hgp.rise s ⟨f.b, f.b.length⟩
   rw [hlk1] at hup
   have hle : lenO (some f) = f.b.length := rfl
   have hgN : ({ k1 with fs := putL k1.fs s ⟨f.b, f.b.length⟩ } : Dk).Good := good_put hgp hnm (Nat.le_refl _) hbd (by have h := hgp.used; rw [hle] at hup; have h3 : (⟨f.b, f.b.length⟩ : Fle).b.length = f.b.length := rfl; rw [h3] at hup; omega)
   clear hix0 hj hlk hlk1 hup hle
   go_enter Tryz.func79, Tryz.ntmps79
   go_upto_region 6 with (first
    | (go_at_call 55; refine hF.mono ?_; rintro e w1 ⟨rfl, hw1⟩; replace hw1 := hw1.symm; subst hw1)
    | (go_at_call 56; refine hP.mono ?_; rintro e w2 ⟨rfl, G2, hR2, hk2, hG2⟩)
    | (go_at_call 57; refine (hA _ _ hR2).mono ?_; rintro e w3 ⟨rfl, hw3⟩; replace hw3 := hw3.symm; subst hw3))
   refine wp_region_lx (fun w' => w' = w2.drew) [16] 17 (by kernel_rfl) (by kernel_rfl) ?_
   have hVX : Below w2.heap.size w2 w2.drew := (Below.refl _ _).drew
   have hRX := hR2.below hVX
   clear hA hF hP
   generalize w2.drew = X at *
   obtain ⟨g0, cap0, aj, cj, q0, hcap0, _, q1, q2, _, _, z2, hset⟩ := hRX.rowj hix.out
   have hRp := hset _ hgN
   obtain ⟨N, HN⟩ : ∃ N, Hid (k1.fs.length = N) := ⟨_, rfl⟩
   obtain ⟨ln, HLn⟩ : ∃ ln, Hid (f.b.length = ln) := ⟨_, rfl⟩
   rw [HN.out] at q0 hcap0 hjl
   rw [HLn.out] at q1 hRp
   have hlen1 := fun w => len_slice aj ln cj 29 3 w Tryz.underlying29
   have hjN0 : (0 : Int) ≤ (j : Int) := by omega
   have hjN : (j : Int) < (N : Int) := by omega
   clear hset hR hRX
   have HSX : X = X := rfl
   refine lx_r 0 _ HSX ?_; simp only [lxa, lxb, lxc]
   refine lx_r 1 _ HSX ?_; simp only [lxa, lxb, lxc]
   refine lx_r 2 _ HSX ?_; simp only [lxa, lxb, lxc]
   refine lx_r 3 (.slice (some ⟨g0, 0, none⟩) N cap0) HSX ?_ (hv := fun w' hS => by subst hS; first | (go_simp; rfl) | go_simp); simp only [lxa, lxb, lxc]
   refine lx_r 4 _ HSX ?_; simp only [lxa, lxb, lxc]
   refine lx_r 5 _ HSX ?_; simp only [lxa, lxb, lxc]
   refine lx_r 6 _ HSX ?_; simp only [lxa, lxb, lxc]
   refine lx_r 7 _ HSX ?_; simp only [lxa, lxb, lxc]
   refine lx_r 8 (.slice (some ⟨g0, 0, none⟩) N cap0) HSX ?_ (hv := fun w' hS => by subst hS; first | (go_simp; rfl) | go_simp); simp only [lxa, lxb, lxc]
   refine lx_r 9 _ HSX ?_; simp only [lxa, lxb, lxc]
   refine lx_r 10 (.pointer (some ⟨g0, j * 3, none⟩)) HSX ?_; simp only [lxa, lxb, lxc]
   refine lx_r 11 (.pointer (some ⟨g0, j * 3 + 1, none⟩)) HSX ?_; simp only [lxa, lxb, lxc]
   refine lx_r 12 (.slice aj ln cj) HSX ?_ (hv := fun w' hS => by subst hS; first | (go_simp; rfl) | go_simp); simp only [lxa, lxb, lxc]
   refine lx_r 13 (.int .i64 ln) HSX ?_; simp only [lxa, lxb, lxc]
   refine lx_one 14 (by kernel_rfl) (stepT_val (w' := X) (.pointer (some ⟨g0, j * 3, none⟩)) rfl rfl rfl ?r14 (fun _ => rfl) ?_)
   case r14 => first | (go_simp; rfl) | go_simp
   simp only [lxa, lxb, lxc]
   refine lx_one 15 (by kernel_rfl) (stepT_val (w' := X) (.pointer (some ⟨g0, j * 3 + 2, none⟩)) rfl rfl rfl ?r15 (fun _ => rfl) ?_)
   case r15 => first | (go_simp; rfl) | go_simp
   simp only [lxa, lxb, lxc]
   refine lx_one 16 (by kernel_rfl) (stepT_store (w' := X.setCell ⟨g0, j * 3 + 2, none⟩ (.int .i64 (ln : Int))) rfl rfl rfl ?r16 (fun h => by cases h) ?_)
   case r16 => first | (go_simp; rfl) | go_simp
   refine lx_nil (by kernel_rfl) ?_
   go_wp2
   go_ret
   rw [HLn.out, ← hpfs]
   exact ⟨rfl, Rp.next hk2 hG2 (Rp.next (Keep.ofBelow hVX) (fun i hi => Or.inl hi) hRp)⟩
  ·rw [if_pos hen]
   have hne : ((en : Int) == 0) = false := by simp; omega
   go_enter Tryz.func79, Tryz.ntmps79
   go_wp2_with (first
    | (go_at_call 55; refine hF.mono ?_; rintro e w1 ⟨rfl, hw1⟩; replace hw1 := hw1.symm; subst hw1)
    | (go_at_call 56; refine hP.mono ?_; rintro e w2 ⟨rfl, hRp⟩))
   go_ret
   exact ⟨rfl, hRp⟩
end Go.Proofs.YtikkieaokfailaaGreatDoor

namespace Go.Proofs.YtikkieaokfailaaGreatDoor
open Go.RowKit Go.Joins
def rlcs (rd most : Nat) (v : Value) (c : Ch) (dn : Bool) : Array Value := #[.pointer (some ⟨rd, 0, none⟩), .int .i64 (most : Int), .int .u64 (c.g : Int), v, .int .i64 (c.cnt : Int), .int .i64 (c.size : Int), .bool c.loose, .bool dn]
structure RD (w : World) (G : Nat → Prop) (rl rd most : Nat) (v : Value) (c : Ch) (dn : Bool) (k : Dk) : Prop where
 blk : w.heap[rl]? = some (.cells (rlcs rd most v c dn) 90 (0, 0))
 R : RefAt w G rd k
 nf : ¬ G rl
section
variable {w w' : World} {G : Nat → Prop} {rl rd most : Nat} {v : Value} {c : Ch} {dn : Bool} {k : Dk}
theorem RD.lt (h : RD w G rl rd most v c dn k) : rl < w.heap.size := (Array.getElem?_eq_some_iff.1 h.blk).1
theorem RD.keep {S : Nat → Prop} (h : RD w G rl rd most v c dn k) (hk : Keep S w w') (hG : ∀ i, G i → ¬ S i) (hl : ¬ S rl) : RD w' G rl rd most v c dn k := ⟨box_keep h.blk hk hl, h.R.keep hk hG, h.nf⟩
theorem RD.below (h : RD w G rl rd most v c dn k) (hb : Below w.heap.size w w') : RD w' G rl rd most v c dn k := h.keep (S := fun _ => False) (Keep.ofBelow hb) (fun _ _ h => h) (fun h => h)
theorem RD.c0 (h : RD w G rl rd most v c dn k) : w.cell? ⟨rl, 0, none⟩ = some (.pointer (some ⟨rd, 0, none⟩)) := by rw [cell_of_block h.blk]; rfl
theorem RD.c1 (h : RD w G rl rd most v c dn k) : w.cell? ⟨rl, 1, none⟩ = some (.int .i64 (most : Int)) := by rw [cell_of_block h.blk]; rfl
theorem RD.c2 (h : RD w G rl rd most v c dn k) : w.cell? ⟨rl, 2, none⟩ = some (.int .u64 (c.g : Int)) := by rw [cell_of_block h.blk]; rfl
theorem RD.c3 (h : RD w G rl rd most v c dn k) : w.cell? ⟨rl, 3, none⟩ = some v := by rw [cell_of_block h.blk]; rfl
theorem RD.c4 (h : RD w G rl rd most v c dn k) : w.cell? ⟨rl, 4, none⟩ = some (.int .i64 (c.cnt : Int)) := by rw [cell_of_block h.blk]; rfl
theorem RD.c5 (h : RD w G rl rd most v c dn k) : w.cell? ⟨rl, 5, none⟩ = some (.int .i64 (c.size : Int)) := by rw [cell_of_block h.blk]; rfl
theorem RD.c6 (h : RD w G rl rd most v c dn k) : w.cell? ⟨rl, 6, none⟩ = some (.bool c.loose) := by rw [cell_of_block h.blk]; rfl
theorem RD.c7 (h : RD w G rl rd most v c dn k) : w.cell? ⟨rl, 7, none⟩ = some (.bool dn) := by rw [cell_of_block h.blk]; rfl
theorem RD.fz (h : RD w G rl rd most v c dn k) (i : Nat) : w.frozen? ⟨rl, i, none⟩ = false := unfrozen_of_block h.blk i
theorem RD.set (h : RD w G rl rd most v c dn k) (i : Nat) (u : Value) {most' : Nat} {v' : Value} {c' : Ch} {dn' : Bool} (e : (rlcs rd most v c dn).setIfInBounds i u = rlcs rd most' v' c' dn') : RD (w.setCell ⟨rl, i, none⟩ u) G rl rd most' v' c' dn' k :=
 ⟨by rw [← e]; exact block_setCell h.blk u, h.R.keep ((Keep.refl (fun i => i = rl) w).setCell (p := ⟨rl, i, none⟩) rfl u) (fun j hj e => h.nf (by rw [← e]; exact hj)), h.nf⟩
end
def Rlp (w : World) (G : Nat → Prop) (rl rd most : Nat) (v : Value) (c : Ch) (dn : Bool) (k : Dk) (w' : World) : Prop := ∃ G', RD w' G' rl rd most v c dn k ∧ Keep (fun i => G i ∨ i = rl) w w' ∧ (∀ i, G' i → G i ∨ w.heap.size ≤ i)
section
variable {w w' w1 w2 : World} {G G1 : Nat → Prop} {rl rd most : Nat} {v : Value} {c : Ch} {dn : Bool} {k k' : Dk}
theorem Rlp.refl (h : RD w G rl rd most v c dn k) : Rlp w G rl rd most v c dn k w := ⟨G, h, Keep.refl _ _, fun _ h => Or.inl h⟩
theorem Rlp.ofBelow (h : RD w G rl rd most v c dn k) (hb : Below w.heap.size w w') : Rlp w G rl rd most v c dn k w' := ⟨G, h.below hb, Keep.ofBelow hb, fun _ h => Or.inl h⟩
theorem Rlp.from (hb : Below w.heap.size w w1) (h : Rlp w1 G rl rd most v c dn k w') : Rlp w G rl rd most v c dn k w' := by
 obtain ⟨G', h1, h2, h3⟩ := h
 exact ⟨G', h1, (Keep.ofBelow hb).trans h2, fun i hi => (h3 i hi).imp id (fun h => Nat.le_trans hb.size h)⟩
theorem Rlp.next (kp : Keep (fun i => G i ∨ i = rl) w w1) (e1 : ∀ i, G1 i → G i ∨ w.heap.size ≤ i) (h : Rlp w1 G1 rl rd most v c dn k w2) : Rlp w G rl rd most v c dn k w2 := by
 obtain ⟨G', h1, h2, h3⟩ := h
 refine ⟨G', h1, kp.andThen h2 (fun i hi hs => ?_), fun i hi => ?_⟩
 ·rcases hs with hs | hs
  ·rcases e1 i hs with h | h
   ·exact Or.inl h
   ·omega
  ·exact Or.inr hs
 ·rcases h3 i hi with h | h
  ·exact e1 i h
  ·exact Or.inr (Nat.le_trans kp.size h)
theorem RD.rp (h : RD w G rl rd most v c dn k) (hp : Rp w G rd k' w') : Rlp w G rl rd most v c dn k' w' := by
 obtain ⟨G', h1, h2, h3⟩ := hp
 have hl := h.lt
 exact ⟨G', ⟨box_keep h.blk h2 h.nf, h1, fun hg => (h3 rl hg).elim h.nf (fun h9 => by omega)⟩, h2.mono (fun i hi => Or.inl hi), h3⟩
end
theorem rdown_any (w : World) (G : Nat → Prop) (rl rd most : Nat) (v : Value) (c : Ch) (dn : Bool) (k : Dk) (h : RD w G rl rd most v c dn k) (en : Nat) :
  Calls Tryz.prog 74 #[.pointer (some ⟨rl, 0, none⟩), .int .i64 (en : Int)] w fun e w' => e = .returned (.int .i64 (en : Int)) ∧ Rlp w G rl rd most v c (if en = 13 then true else dn) k w' := by
 have q7 := h.c7
 have f7 := h.fz 7
 by_cases h13 : en = 13
 ·subst h13
  rw [if_pos rfl]
  have hS : RD (w.setCell ⟨rl, 7, none⟩ (.bool true)) G rl rd most v c true k := h.set 7 (.bool true) rfl
  have hK : Keep (fun i => G i ∨ i = rl) w (w.setCell ⟨rl, 7, none⟩ (.bool true)) := (Keep.refl _ w).setCell (p := ⟨rl, 7, none⟩) (Or.inr rfl) _
  have z : ((13 : Nat) : Int) = 13 := rfl
  go_enter Tryz.func74, Tryz.ntmps74
  go_wp2
  go_ret
  exact ⟨rfl, G, hS, hK, fun i hi => Or.inl hi⟩
 ·rw [if_neg h13]
  have z : ((en : Int) == 13) = false := by rw [beq_eq_false_iff_ne]; omega
  have z2 : ¬ (en : Int) = 13 := by omega
  go_enter Tryz.func74, Tryz.ntmps74
  go_wp2
  go_ret
  exact ⟨rfl, Rlp.refl h⟩
theorem stp_rd (dn : Bool) (k : Dk) (r : Nat × Dk) (h : dn = false) : stp dn k r = (r.1, (if r.1 = 13 then true else dn), r.2) := by
 subst h
 unfold stp
 rw [if_neg (by decide)]
 by_cases e : r.1 = 13
 ·rw [if_pos e, decide_eq_true e]
 ·rw [if_neg e, decide_eq_false e]
set_option maxHeartbeats 2000000 in
theorem rcommit_any (w : World) (G : Nat → Prop) (rl rd most : Nat) (v : Value) (c : Ch) (dn : Bool) (k : Dk) (h : RD w G rl rd most v c dn k) (hg : c.g < 18446744073709551616) (hi : c.cnt ≤ 9223372036854775807) (hst : k.steps < 1000000) :
  Calls Tryz.prog 41 #[.pointer (some ⟨rl, 0, none⟩)] w fun e w' => e = .returned (.int .i64 ((settleL c dn k).1 : Int)) ∧ Rlp w G rl rd most v (settleL c dn k).2.1 (settleL c dn k).2.2.1 (settleL c dn k).2.2.2 w' := by
 have q6 := h.c6
 have q7 := h.c7
 unfold settleL
 cases hl : c.loose with
 | false =>
  rw [if_neg (by decide)]
  rw [hl] at q6
  go_enter Tryz.func41, Tryz.ntmps41
  go_wp2
  go_ret
  exact ⟨rfl, Rlp.refl h⟩
 | true =>
  rw [if_pos rfl]
  rw [hl] at q6
  cases hd : dn with
  | true =>
   rw [hd] at q7 h
   show Calls _ _ _ _ fun e w' => e = .returned (.int .i64 ((13 : Nat) : Int)) ∧ Rlp w G rl rd most v (if (13 : Nat) = 0 then { c with loose := false } else c) true k w'
   rw [if_neg (by decide)]
   go_enter Tryz.func41, Tryz.ntmps41
   go_wp2
   go_ret
   exact ⟨rfl, Rlp.refl h⟩
  | false =>
   rw [hd] at q7 h
   rw [stp_rd false k _ rfl]
   dsimp only
   have hbX : Below w.heap.size w w.drew := (Below.refl _ _).drew
   have hX := h.below hbX
   have HS0 : w.drew.cell? ⟨rl, 0, none⟩ = some (.pointer (some ⟨rd, 0, none⟩)) ∧ w.drew.cell? ⟨rl, 2, none⟩ = some (.int .u64 (c.g : Int)) ∧ w.drew.cell? ⟨rl, 4, none⟩ = some (.int .i64 (c.cnt : Int)) := ⟨hX.c0, hX.c2, hX.c4⟩
   have hfi := rfile_any c.g c.cnt hg hi w.drew
   have hnm := segN_size c.g c.cnt hg (by omega)
   have hsy := fun w' (hb : Below w.heap.size w w') => refSync_any rd G k (segN c.g c.cnt) (by omega) hst w' (h.below hb).R
   obtain ⟨s, Hs⟩ : ∃ s, Hid (segN c.g c.cnt = s) := ⟨_, rfl⟩
   rw [Hs.out] at hfi hnm ⊢
   simp only [Hs.out] at hsy
   obtain ⟨P, HP⟩ : ∃ P, syncK k s = P := ⟨_, rfl⟩
   rw [HP]
   simp only [HP] at hsy
   clear HP
   obtain ⟨en, k2⟩ := P
   dsimp only at hsy ⊢
   have hdw := fun w' G' (h' : RD w' G' rl rd most v c false k2) => rdown_any w' G' rl rd most v c false k2 h' en
   have hsh : w.heap.size = w.drew.heap.size := rfl
   go_enter Tryz.func41, Tryz.ntmps41
   go_upto_region 5 with fail
   refine wp_region_lx (fun w' => w'.cell? ⟨rl, 0, none⟩ = some (.pointer (some ⟨rd, 0, none⟩)) ∧ w'.cell? ⟨rl, 2, none⟩ = some (.int .u64 (c.g : Int)) ∧ w'.cell? ⟨rl, 4, none⟩ = some (.int .i64 (c.cnt : Int))) [] 17 (by kernel_rfl) (by kernel_rfl) ?_
   generalize w.drew = X at *
   refine lx_r 0 (.pointer (some ⟨rl, 0, none⟩)) HS0 ?_; simp only [lxa, lxb, lxc]
   refine lx_r 1 (.pointer (some ⟨rl, 0, none⟩)) HS0 ?_; simp only [lxa, lxb, lxc]
   refine lx_r 2 (.pointer (some ⟨rl, 0, none⟩)) HS0 ?_; simp only [lxa, lxb, lxc]
   refine lx_r 3 (.pointer (some ⟨rl, 0, none⟩)) HS0 ?_; simp only [lxa, lxb, lxc]
   refine lx_r 4 (.pointer (some ⟨rd, 0, none⟩)) HS0 ?_ (hv := fun w' hS => by have q := hS.1; first | (go_simp; rfl) | go_simp); simp only [lxa, lxb, lxc]
   refine lx_r 5 (.pointer (some ⟨rl, 0, none⟩)) HS0 ?_; simp only [lxa, lxb, lxc]
   refine lx_r 6 (.pointer (some ⟨rl, 0, none⟩)) HS0 ?_; simp only [lxa, lxb, lxc]
   refine lx_r 7 (.pointer (some ⟨rl, 2, none⟩)) HS0 ?_; simp only [lxa, lxb, lxc]
   refine lx_r 8 (.int .u64 (c.g : Int)) HS0 ?_ (hv := fun w' hS => by have q := hS.2.1; first | (go_simp; rfl) | go_simp); simp only [lxa, lxb, lxc]
   refine lx_r 9 (.pointer (some ⟨rl, 0, none⟩)) HS0 ?_; simp only [lxa, lxb, lxc]
   refine lx_r 10 (.pointer (some ⟨rl, 0, none⟩)) HS0 ?_; simp only [lxa, lxb, lxc]
   refine lx_r 11 (.pointer (some ⟨rl, 4, none⟩)) HS0 ?_; simp only [lxa, lxb, lxc]
   refine lx_r 12 (.int .i64 (c.cnt : Int)) HS0 ?_ (hv := fun w' hS => by have q := hS.2.2; first | (go_simp; rfl) | go_simp); simp only [lxa, lxb, lxc]
   refine lx_one 13 (by kernel_rfl) (stepT_call 82 ?a13 rfl rfl rfl ?r13 ?_)
   case r13 => first | (go_simp; rfl) | go_simp
   refine hfi.mono ?_
   rintro e w3 ⟨rfl, hb3⟩
   have h3 := hX.below hb3
   refine ⟨_, rfl, fun _ => ⟨h3.c0, h3.c2, h3.c4⟩, ?_⟩
   simp only [lxa, lxb, lxc]
   refine lx_one 14 (by kernel_rfl) (stepT_call 79 ?a14 rfl rfl rfl ?r14 ?_)
   case r14 => first | (go_simp; rfl) | go_simp
   refine (hsy w3 (hbX.trans (hb3.mono (by omega)))).mono ?_
   rintro e w4 ⟨rfl, hp4⟩
   obtain ⟨G4, h4, hk4, hG4⟩ := h3.rp hp4
   refine ⟨_, rfl, fun _ => ⟨h4.c0, h4.c2, h4.c4⟩, ?_⟩
   simp only [lxa, lxb, lxc]
   refine lx_one 15 (by kernel_rfl) (stepT_call 74 ?a15 rfl rfl rfl ?r15 ?_)
   case r15 => first | (go_simp; rfl) | go_simp
   refine (hdw w4 G4 h4).mono ?_
   rintro e w5 ⟨rfl, hp5⟩
   obtain ⟨G5, h5, hk5, hG5⟩ := Rlp.next hk4 hG4 hp5
   refine ⟨_, rfl, fun _ => ⟨h5.c0, h5.c2, h5.c4⟩, ?_⟩
   simp only [lxa, lxb, lxc]
   have HS5 := And.intro h5.c0 (And.intro h5.c2 h5.c4)
   refine lx_r 16 (.int .i64 (en : Int)) HS5 ?_; simp only [lxa, lxb, lxc]
   refine lx_nil (by kernel_rfl) ?_
   have hfin : Rlp w G rl rd most v c (if en = 13 then true else false) k2 w5 := Rlp.from (hbX.trans (hb3.mono (by omega))) ⟨G5, h5, hk5, hG5⟩
   clear HS0 HS5 hk4 hG4 hp4 hp5 hfi hsy hdw
   by_cases h0 : en = 0
   ·subst h0
    rw [if_neg (by decide)] at h5
    have p6 := h5.c6
    have f6 := h5.fz 6
    have hS : RD (w5.setCell ⟨rl, 6, none⟩ (.bool false)) G5 rl rd most v { c with loose := false } false k2 := h5.set 6 (.bool false) rfl
    have hkS : Keep (fun i => G i ∨ i = rl) w5 (w5.setCell ⟨rl, 6, none⟩ (.bool false)) := (Keep.refl _ w5).setCell (p := ⟨rl, 6, none⟩) (Or.inr rfl) _
    obtain ⟨G6, h6, hk6, hG6⟩ := hfin
    go_wp2
    go_ret
    refine ⟨rfl, ?_⟩
    refine ⟨G5, hS, hk6.trans hkS, fun i hi => ?_⟩
    have hb3s := hb3.size
    exact (hG5 i hi).imp id (fun h9 => by omega)
   ·have z : ((en : Int) == 0) = false := by rw [beq_eq_false_iff_ne]; omega
    have z2 : ¬ (en : Int) = 0 := by omega
    go_wp2
    go_ret
    refine ⟨rfl, ?_⟩
    have hE : (if en = 13 then true else false : Bool) = decide (en = 13) := by by_cases h9 : en = 13 <;> simp [h9]
    rw [hE] at hfin
    exact hfin
end Go.Proofs.YtikkieaokfailaaGreatDoor

namespace Go.Proofs.YtikkieaokfailaaGreatDoor
open Go.RowKit Go.Joins
set_option maxRecDepth 100000 in
set_option maxHeartbeats 4000000 in
theorem rlay_any (w : World) (G : Nat → Prop) (rl rd most : Nat) (v : Value) (c : Ch) (k : Dk) (h : RD w G rl rd most v c false k) (hg : c.g < 18446744073709551616) (hi : c.cnt ≤ 1000000000000) (hz : c.size ≤ 1000000000000) (hmo : most ≤ 1000000000000) (hz0 : c.cnt = 0 → c.size = 0) (hst : k.steps < 999990) (hfl : k.fs.length < 999990)
    (a : Option Addr) (n cc : Nat) (b : List Int) (hR : Rd w a n cc b) (hn : n ≤ 2000000) (hRG : ∀ ad, a = some ad → ¬ G ad.block ∧ ad.block ≠ rl ∧ ad.block < w.heap.size) :
    Calls Tryz.prog 75 #[.pointer (some ⟨rl, 0, none⟩), .slice a n cc] w fun e w' => e = .returned (.int .i64 ((layL most c b false k).1 : Int)) ∧ Rlp w G rl rd most v (layL most c b false k).2.1 (layL most c b false k).2.2.1 (layL most c b false k).2.2.2 w' := by
  obtain ⟨R, HR⟩ : ∃ R, Hid (layL most c b false k = R) := ⟨_, rfl⟩
  rw [HR.out]
  have q4 := h.c4
  have q5 := h.c5
  have q1 := h.c1
  have q6 := h.c6
  have hbl := hR.len
  have HR9 := HR.out
  unfold layL at HR9
  rw [hbl] at HR9
  have HR8 : Hid ((if 0 < c.size ∧ most < c.size + n then (if (settleL c false k).1 ≠ 0 then settleL c false k else putS (max c.cnt 1 + 1) 0 (settleL c false k).2.1 b (settleL c false k).2.2.1 (settleL c false k).2.2.2) else putS (max c.cnt 1) c.size c b false k) = R) := HR9
  clear HR9
  go_enter Tryz.func75, Tryz.ntmps75
  go_upto_if 13 with fail
  go_cut [5, 6] from 11 to 60 (fun s5 _ wx => ∃ (nn sz : Nat) (c' : Ch) (k' : Dk) (G' : Nat → Prop), s5 = .int .i64 nn ∧ 1 ≤ nn ∧ nn ≤ 1000000000001 ∧ c'.g < 18446744073709551616 ∧ c'.size ≤ 1000000000000 ∧ k'.steps < 999995 ∧ k'.fs.length < 999995 ∧ sz = (if nn = c'.cnt then c'.size else 0) ∧ Hid (RD wx G' rl rd most v c' false k') ∧ Hid (Keep (fun i => G i ∨ i = rl) w wx) ∧ Hid (∀ i, G' i → G i ∨ w.heap.size ≤ i) ∧ Hid (putS nn sz c' b false k' = R))
  case first =>
    by_cases hc0 : c.cnt = 0
    · have z0 : (c.cnt : Int) = 0 := by omega
      have hs0 := hz0 hc0
      rw [z0] at q4 ⊢
      have HE : Hid (putS 1 0 c b false k = R) := by
        show _ = _
        rw [← HR8.out, if_neg (by omega), hc0, hs0]
        rfl
      go_wp2
      go_meet
      exact ⟨1, 0, c, k, G, rfl, by omega, by omega, hg, hz, by omega, by omega, by rw [if_neg (by omega)], h, Keep.refl _ _, fun i hi => Or.inl hi, HE.out⟩
    · have z0 : ((c.cnt : Int) == 0) = false := by rw [beq_eq_false_iff_ne]; omega
      have z0' : ¬ (c.cnt : Int) = 0 := by omega
      have hmx : max c.cnt 1 = c.cnt := by omega
      by_cases hov : 0 < c.size ∧ most < c.size + n
      · have hszN : 0 < c.size := hov.1
        have hsz : (0 : Int) < (c.size : Int) := by omega
        have hm2 : (most : Int) < (c.size : Int) + (n : Int) := by omega
        have hd1 : decide ((0 : Int) < (c.size : Int)) = true := decide_eq_true hsz
        have hd2 : decide ((most : Int) < (c.size : Int) + (n : Int)) = true := decide_eq_true hm2
        have HR7 : Hid ((if (settleL c false k).1 ≠ 0 then settleL c false k else putS (c.cnt + 1) 0 (settleL c false k).2.1 b (settleL c false k).2.2.1 (settleL c false k).2.2.2) = R) := by
          have := HR8.out
          rw [if_pos hov, hmx] at this
          exact this
        cases hl : c.loose with
        | false =>
          rw [hl] at q6
          have HE : Hid (putS (c.cnt + 1) 0 c b false k = R) := by
            have := HR7.out
            have hset : settleL c false k = (0, c, false, k) := by unfold settleL; rw [hl, if_neg (by decide)]
            rw [hset, if_neg (by simp)] at this
            exact this
          clear hov
          go_upto_region 4 with fail
          go_quiet (fail)
          have p6 : (w.drewN nq).cell? ⟨rl, 6, none⟩ = some (.bool false) := q6
          have hbD : Below w.heap.size w (w.drewN nq) := ⟨rfl, rfl, rfl, Nat.le_refl _, fun _ _ => rfl⟩
          have hD := h.below hbD
          go_wp2
          go_meet
          exact ⟨c.cnt + 1, 0, c, k, G, by go_num, by omega, by omega, hg, hz, by omega, by omega, by rw [if_neg (by omega)], hD, Keep.ofBelow hbD, fun i hi => Or.inl hi, HE.out⟩
        | true =>
          rw [hl] at q6
          have hset : settleL c false k = ((stp false k (syncK k (segN c.g c.cnt))).1, (if (stp false k (syncK k (segN c.g c.cnt))).1 = 0 then { c with loose := false } else c), (stp false k (syncK k (segN c.g c.cnt))).2) := by unfold settleL; rw [hl, if_pos rfl]
          have HR6 := HR7.out
          rw [hset] at HR6
          rw [stp_rd false k _ rfl] at HR6
          dsimp only at HR6
          have hgr := sync_gr k (segN c.g c.cnt)
          have hfi := fun w' => rfile_any c.g c.cnt hg (by omega) w'
          have hnm := segN_size c.g c.cnt hg (by omega)
          have hsy := fun w' (hb : Below w.heap.size w w') => refSync_any rd G k (segN c.g c.cnt) (by omega) (by omega) w' (h.below hb).R
          obtain ⟨s, Hs⟩ : ∃ s, Hid (segN c.g c.cnt = s) := ⟨_, rfl⟩
          rw [Hs.out] at hnm HR6 hgr
          simp only [Hs.out] at hsy hfi
          obtain ⟨P, HP⟩ : ∃ P, syncK k s = P := ⟨_, rfl⟩
          rw [HP] at HR6 hgr
          simp only [HP] at hsy
          clear HP
          obtain ⟨en, k2⟩ := P
          dsimp only at hsy HR6 hgr
          have HR5 : Hid (_ = R) := HR6
          clear HR6 hset
          have hdw := fun w' G' (h' : RD w' G' rl rd most v c false k2) => rdown_any w' G' rl rd most v c false k2 h' en
          clear hov
          go_upto_region 4 with fail
          go_quiet (fail)
          have p6 : (w.drewN nq).cell? ⟨rl, 6, none⟩ = some (.bool true) := q6
          have hbD : Below w.heap.size w (w.drewN nq) := ⟨rfl, rfl, rfl, Nat.le_refl _, fun _ _ => rfl⟩
          have hD := h.below hbD
          have hsD : (w.drewN nq).heap.size = w.heap.size := rfl
          generalize w.drewN nq = Y at *
          go_upto_region 6 with fail
          have hbX : Below Y.heap.size Y Y.drew := (Below.refl _ _).drew
          have hX := hD.below hbX
          have hsX : Y.drew.heap.size = Y.heap.size := rfl
          have HS0 : Y.drew.cell? ⟨rl, 0, none⟩ = some (.pointer (some ⟨rd, 0, none⟩)) ∧ Y.drew.cell? ⟨rl, 2, none⟩ = some (.int .u64 (c.g : Int)) ∧ Y.drew.cell? ⟨rl, 4, none⟩ = some (.int .i64 (c.cnt : Int)) := ⟨hX.c0, hX.c2, hX.c4⟩
          refine wp_region_lx (fun w' => w'.cell? ⟨rl, 0, none⟩ = some (.pointer (some ⟨rd, 0, none⟩)) ∧ w'.cell? ⟨rl, 2, none⟩ = some (.int .u64 (c.g : Int)) ∧ w'.cell? ⟨rl, 4, none⟩ = some (.int .i64 (c.cnt : Int))) [] 17 (by kernel_rfl) (by kernel_rfl) ?_
          generalize Y.drew = X at *
          refine lx_r 0 (.pointer (some ⟨rl, 0, none⟩)) HS0 ?_; simp only [lxa, lxb, lxc]
          refine lx_r 1 (.pointer (some ⟨rl, 0, none⟩)) HS0 ?_; simp only [lxa, lxb, lxc]
          refine lx_r 2 (.pointer (some ⟨rl, 0, none⟩)) HS0 ?_; simp only [lxa, lxb, lxc]
          refine lx_r 3 (.pointer (some ⟨rl, 0, none⟩)) HS0 ?_; simp only [lxa, lxb, lxc]
          refine lx_r 4 (.pointer (some ⟨rd, 0, none⟩)) HS0 ?_ (hv := fun w' hS => by have q := hS.1; first | (go_simp; rfl) | go_simp); simp only [lxa, lxb, lxc]
          refine lx_r 5 (.pointer (some ⟨rl, 0, none⟩)) HS0 ?_; simp only [lxa, lxb, lxc]
          refine lx_r 6 (.pointer (some ⟨rl, 0, none⟩)) HS0 ?_; simp only [lxa, lxb, lxc]
          refine lx_r 7 (.pointer (some ⟨rl, 2, none⟩)) HS0 ?_; simp only [lxa, lxb, lxc]
          refine lx_r 8 (.int .u64 (c.g : Int)) HS0 ?_ (hv := fun w' hS => by have q := hS.2.1; first | (go_simp; rfl) | go_simp); simp only [lxa, lxb, lxc]
          refine lx_r 9 (.pointer (some ⟨rl, 0, none⟩)) HS0 ?_; simp only [lxa, lxb, lxc]
          refine lx_r 10 (.pointer (some ⟨rl, 0, none⟩)) HS0 ?_; simp only [lxa, lxb, lxc]
          refine lx_r 11 (.pointer (some ⟨rl, 4, none⟩)) HS0 ?_; simp only [lxa, lxb, lxc]
          refine lx_r 12 (.int .i64 (c.cnt : Int)) HS0 ?_ (hv := fun w' hS => by have q := hS.2.2; first | (go_simp; rfl) | go_simp); simp only [lxa, lxb, lxc]
          refine lx_one 13 (by kernel_rfl) (stepT_call 82 ?a13 rfl rfl rfl ?r13 ?_)
          case r13 => first | (go_simp; rfl) | go_simp
          refine (hfi X).mono ?_
          rintro e w3 ⟨rfl, hb3⟩
          have h3 := hX.below hb3
          have hb3s := hb3.size
          have hB3 : Below w.heap.size w w3 := (hbD.trans (hbX.mono (by omega))).trans (hb3.mono (by omega))
          refine ⟨_, rfl, fun _ => ⟨h3.c0, h3.c2, h3.c4⟩, ?_⟩
          simp only [lxa, lxb, lxc]
          refine lx_one 14 (by kernel_rfl) (stepT_call 79 ?a14 rfl rfl rfl ?r14 ?_)
          case r14 => first | (go_simp; rfl) | go_simp
          refine (hsy w3 hB3).mono ?_
          rintro e w4 ⟨rfl, hp4⟩
          obtain ⟨G4, h4, hk4, hG4⟩ := h3.rp hp4
          refine ⟨_, rfl, fun _ => ⟨h4.c0, h4.c2, h4.c4⟩, ?_⟩
          simp only [lxa, lxb, lxc]
          refine lx_one 15 (by kernel_rfl) (stepT_call 74 ?a15 rfl rfl rfl ?r15 ?_)
          case r15 => first | (go_simp; rfl) | go_simp
          refine (hdw w4 G4 h4).mono ?_
          rintro e w5 ⟨rfl, hp5⟩
          obtain ⟨G5, h5, hk5, hG5⟩ := Rlp.from hB3 (Rlp.next hk4 hG4 hp5)
          refine ⟨_, rfl, fun _ => ⟨h5.c0, h5.c2, h5.c4⟩, ?_⟩
          simp only [lxa, lxb, lxc]
          have HS5 := And.intro h5.c0 (And.intro h5.c2 h5.c4)
          refine lx_r 16 (.int .i64 (en : Int)) HS5 ?_; simp only [lxa, lxb, lxc]
          refine lx_nil (by kernel_rfl) ?_
          clear HS0 HS5 hk4 hG4 hp4 hp5 hfi hsy hdw
          by_cases h0 : en = 0
          · subst h0
            rw [if_neg (by decide)] at h5
            have pp6 := h5.c6
            have f6 := h5.fz 6
            have hS : RD (w5.setCell ⟨rl, 6, none⟩ (.bool false)) G5 rl rd most v { c with loose := false } false k2 := h5.set 6 (.bool false) rfl
            have hkS : Keep (fun i => G i ∨ i = rl) w5 (w5.setCell ⟨rl, 6, none⟩ (.bool false)) := (Keep.refl _ w5).setCell (p := ⟨rl, 6, none⟩) (Or.inr rfl) _
            have HE : Hid (putS (c.cnt + 1) 0 { c with loose := false } b false k2 = R) := by
              have := HR5.out
              rw [if_neg (by simp)] at this
              exact this
            go_wp2
            go_meet
            exact ⟨c.cnt + 1, 0, { c with loose := false }, k2, G5, by go_num, by omega, by omega, hg, hz, by omega, by omega, by rw [if_neg (by show ¬ c.cnt + 1 = c.cnt; omega)], hS, hk5.trans hkS, hG5, HE.out⟩
          · have z : ((en : Int) == 0) = false := by rw [beq_eq_false_iff_ne]; omega
            have z2 : ¬ (en : Int) = 0 := by omega
            have hres := HR5.out.symm
            rw [if_pos h0] at hres
            rw [if_neg h0] at hres
            subst hres
            go_wp2
            go_ret
            refine ⟨rfl, ?_⟩
            first
              | exact ⟨G5, h5, hk5, hG5⟩
              | (have hE : (if en = 13 then true else false : Bool) = decide (en = 13) := by by_cases h9 : en = 13 <;> simp [h9]
                 rw [hE] at h5
                 exact ⟨G5, h5, hk5, hG5⟩)
      · have HE : Hid (putS c.cnt c.size c b false k = R) := by
          have := HR8.out
          rw [if_neg hov, hmx] at this
          exact this
        by_cases hp : 0 < c.size
        · have hsz : (0 : Int) < (c.size : Int) := by omega
          have hm2 : ¬ (most : Int) < (c.size : Int) + (n : Int) := by omega
          have hd1 : decide ((0 : Int) < (c.size : Int)) = true := decide_eq_true hsz
          have hd2 : decide ((most : Int) < (c.size : Int) + (n : Int)) = false := decide_eq_false hm2
          clear hov
          go_upto_region 4 with fail
          go_quiet (fail)
          have hbD : Below w.heap.size w (w.drewN nq) := ⟨rfl, rfl, rfl, Nat.le_refl _, fun _ _ => rfl⟩
          have hD := h.below hbD
          go_wp2
          go_meet
          exact ⟨c.cnt, c.size, c, k, G, rfl, by omega, by omega, hg, hz, by omega, by omega, by rw [if_pos rfl], hD, Keep.ofBelow hbD, fun i hi => Or.inl hi, HE.out⟩
        · have hsz : ¬ (0 : Int) < (c.size : Int) := by omega
          have hd1 : decide ((0 : Int) < (c.size : Int)) = false := decide_eq_false hsz
          clear hov
          go_upto_region 4 with fail
          go_quiet (fail)
          have hbD : Below w.heap.size w (w.drewN nq) := ⟨rfl, rfl, rfl, Nat.le_refl _, fun _ _ => rfl⟩
          have hD := h.below hbD
          go_wp2
          go_meet
          exact ⟨c.cnt, c.size, c, k, G, rfl, by omega, by omega, hg, hz, by omega, by omega, by rw [if_pos rfl], hD, Keep.ofBelow hbD, fun i hi => Or.inl hi, HE.out⟩
  case rest =>
  obtain ⟨nn, sz, c', k', G', rfl, hn1, hnn, hg', hz', hst', hfl', hsz', HD, HK, HG, HE⟩ := hcut
  clear HR HR8 q1 q4 q5 q6
  obtain ⟨Y, hYe⟩ : ∃ Y, Y = wc := ⟨_, rfl⟩
  subst hYe
  have hD := HD.out
  have hks := HK.out.size
  have hRY := hR.keep HK.out (fun ad had hs => hs.elim (hRG ad had).1 (hRG ad had).2.1)
  have hRG2 : ∀ ad, a = some ad → ¬ G' ad.block := fun ad had hg9 => (HG.out _ hg9).elim (hRG ad had).1 (fun h9 => by
    have := (hRG ad had).2.2
    omega)
  have hbX : Below Y.heap.size Y Y.drew := (Below.refl _ _).drew
  have hX := hD.below hbX
  have hsX : Y.drew.heap.size = Y.heap.size := rfl
  have hRX := hRY.carry (Nat.le_refl _) hbX
  have HS0 : Y.drew.cell? ⟨rl, 0, none⟩ = some (.pointer (some ⟨rd, 0, none⟩)) ∧ Y.drew.cell? ⟨rl, 2, none⟩ = some (.int .u64 (c'.g : Int)) := ⟨hX.c0, hX.c2⟩
  have hfi := fun w' => rfile_any c'.g nn hg' (by omega) w'
  have hnm := segN_size c'.g nn hg' (by omega)
  have HE2 := HE.out
  unfold putS at HE2
  rw [stp_rd false k' _ rfl] at HE2
  dsimp only at HE2
  have hgr := app_gr k' (segN c'.g nn) b
  obtain ⟨s, Hs⟩ : ∃ s, Hid (segN c'.g nn = s) := ⟨_, rfl⟩
  rw [Hs.out] at hnm HE2 hgr
  simp only [Hs.out] at hfi
  have hap : ∀ w' (G'' : Nat → Prop), RefAt w' G'' rd k' → Rd w' a n cc b → (∀ ad, a = some ad → ¬ G'' ad.block) → Calls Tryz.prog 18 #[.pointer (some ⟨rd, 0, none⟩), .string s, .slice a n cc] w' fun e w'' => e = .returned (.int .i64 (appK k' s b).1) ∧ Rp w' G'' rd (appK k' s b).2 w'' := fun w' G'' hR' hY' hYG => refAppend_any rd G'' k' s (by omega) a n cc b (by omega) (by omega) w' hR' hY' hYG
  obtain ⟨P, HP⟩ : ∃ P, appK k' s b = P := ⟨_, rfl⟩
  rw [HP] at HE2 hgr
  simp only [HP] at hap
  clear HP
  obtain ⟨en, k2⟩ := P
  dsimp only at hap HE2 hgr
  have HE3 : Hid (_ = R) := HE2
  clear HE2
  have hdw := fun w' G' (h' : RD w' G' rl rd most v c' false k2) => rdown_any w' G' rl rd most v c' false k2 h' en
  go_upto_region 11 with fail
  refine wp_region_lx (fun w' => w'.cell? ⟨rl, 0, none⟩ = some (.pointer (some ⟨rd, 0, none⟩)) ∧ w'.cell? ⟨rl, 2, none⟩ = some (.int .u64 (c'.g : Int))) [] 15 (by kernel_rfl) (by kernel_rfl) ?_
  generalize Y.drew = X at *
  refine lx_r 0 (.pointer (some ⟨rl, 0, none⟩)) HS0 ?_; simp only [lxa, lxb, lxc]
  refine lx_r 1 (.pointer (some ⟨rl, 0, none⟩)) HS0 ?_; simp only [lxa, lxb, lxc]
  refine lx_r 2 (.pointer (some ⟨rl, 0, none⟩)) HS0 ?_; simp only [lxa, lxb, lxc]
  refine lx_r 3 (.pointer (some ⟨rl, 0, none⟩)) HS0 ?_; simp only [lxa, lxb, lxc]
  refine lx_r 4 (.pointer (some ⟨rd, 0, none⟩)) HS0 ?_ (hv := fun w' hS => by have q := hS.1; first | (go_simp; rfl) | go_simp); simp only [lxa, lxb, lxc]
  refine lx_r 5 (.pointer (some ⟨rl, 0, none⟩)) HS0 ?_; simp only [lxa, lxb, lxc]
  refine lx_r 6 (.pointer (some ⟨rl, 0, none⟩)) HS0 ?_; simp only [lxa, lxb, lxc]
  refine lx_r 7 (.pointer (some ⟨rl, 2, none⟩)) HS0 ?_; simp only [lxa, lxb, lxc]
  refine lx_r 8 (.int .u64 (c'.g : Int)) HS0 ?_ (hv := fun w' hS => by have q := hS.2; first | (go_simp; rfl) | go_simp); simp only [lxa, lxb, lxc]
  refine lx_r 9 (.int .i64 (nn : Int)) HS0 ?_; simp only [lxa, lxb, lxc]
  refine lx_r 11 (.slice a n cc) HS0 ?_; simp only [lxa, lxb, lxc]
  refine lx_one 10 (by kernel_rfl) (stepT_call 82 ?d10 rfl rfl rfl ?e10 ?_)
  case e10 => first | (go_simp; rfl) | go_simp
  refine (hfi X).mono ?_
  rintro e w3 ⟨rfl, hb3⟩
  have h3 := hX.below hb3
  have hb3s := hb3.size
  have hB3 : Below Y.heap.size Y w3 := hbX.trans (hb3.mono (by omega))
  have hR3 := hRX.carry (Nat.le_refl _) hb3
  refine ⟨_, rfl, fun _ => ⟨h3.c0, h3.c2⟩, ?_⟩
  simp only [lxa, lxb, lxc]
  refine lx_one 12 (by kernel_rfl) (stepT_call 18 ?d12 rfl rfl rfl ?e12 ?_)
  case e12 => first | (go_simp; rfl) | go_simp
  refine (hap w3 G' h3.R hR3 ?_).mono ?_
  · exact fun ad had => hRG2 ad had
  rintro e w4 ⟨rfl, hp4⟩
  obtain ⟨G4, h4, hk4, hG4⟩ := h3.rp hp4
  refine ⟨_, rfl, fun _ => ⟨h4.c0, h4.c2⟩, ?_⟩
  simp only [lxa, lxb, lxc]
  refine lx_one 13 (by kernel_rfl) (stepT_call 74 ?d13 rfl rfl rfl ?e13 ?_)
  case e13 => first | (go_simp; rfl) | go_simp
  refine (hdw w4 G4 h4).mono ?_
  rintro e w5 ⟨rfl, hp5⟩
  have hp5' := Rlp.next HK.out HG.out (Rlp.from hB3 (Rlp.next hk4 hG4 hp5))
  obtain ⟨G5, h5, hk5, hG5⟩ := hp5'
  refine ⟨_, rfl, fun _ => ⟨h5.c0, h5.c2⟩, ?_⟩
  simp only [lxa, lxb, lxc]
  have HS5 := And.intro h5.c0 h5.c2
  refine lx_r 14 (.int .i64 (en : Int)) HS5 ?_; simp only [lxa, lxb, lxc]
  refine lx_nil (by kernel_rfl) ?_
  clear HS0 HS5 hk4 hG4 hp4 hp5 hfi hap hdw
  by_cases h0 : en = 0
  · subst h0
    rw [if_neg (by decide)] at h5
    have hres := HE3.out.symm
    rw [if_pos rfl, if_neg (by decide)] at hres
    subst hres
    have q4 := h5.c4
    have q5 := h5.c5
    have q6 := h5.c6
    have f4 := h5.fz 4
    have f5 := h5.fz 5
    have f6 := h5.fz 6
    have hkS : ∀ (w0 : World) i u, Keep (fun i => G i ∨ i = rl) w0 (w0.setCell ⟨rl, i, none⟩ u) := fun w0 i u => (Keep.refl _ w0).setCell (p := ⟨rl, i, none⟩) (Or.inr rfl) u
    by_cases hnc : nn = c'.cnt
    · rw [if_pos hnc] at hsz'
      subst hsz'
      have z1 : ((nn : Int) != (c'.cnt : Int)) = false := by rw [hnc]; simp
      have z2 : (nn : Int) = (c'.cnt : Int) := by omega
      have hS : RD ((w5.setCell ⟨rl, 5, none⟩ (.int .i64 ((c'.size : Int) + (n : Int)))).setCell ⟨rl, 6, none⟩ (.bool true)) G5 rl rd most v ⟨c'.g, nn, c'.size + b.length, true⟩ false k2 := by
        have e1 : (rlcs rd most v c' false).setIfInBounds 5 (.int .i64 ((c'.size : Int) + (n : Int))) = rlcs rd most v ⟨c'.g, nn, c'.size + b.length, c'.loose⟩ false := by
          rw [hnc, hbl]
          rfl
        exact (h5.set 5 _ e1).set 6 (.bool true) rfl
      have hkA := (hk5.trans (hkS w5 5 (.int .i64 ((c'.size : Int) + (n : Int))))).trans (hkS _ 6 (.bool true))
      go_wp2
      go_ret
      rw [hbl, hnc] at hS
      exact ⟨rfl, G5, hS, hkA, hG5⟩
    · rw [if_neg hnc] at hsz'
      subst hsz'
      have z1 : ((nn : Int) != (c'.cnt : Int)) = true := by simp; omega
      have z2 : ¬ (nn : Int) = (c'.cnt : Int) := by omega
      have hS : RD ((((w5.setCell ⟨rl, 4, none⟩ (.int .i64 (nn : Int))).setCell ⟨rl, 5, none⟩ (.int .i64 0)).setCell ⟨rl, 5, none⟩ (.int .i64 (n : Int))).setCell ⟨rl, 6, none⟩ (.bool true)) G5 rl rd most v ⟨c'.g, nn, 0 + b.length, true⟩ false k2 := by
        have e1 : (rlcs rd most v ⟨c'.g, nn, 0, c'.loose⟩ false).setIfInBounds 5 (.int .i64 (n : Int)) = rlcs rd most v ⟨c'.g, nn, 0 + b.length, c'.loose⟩ false := by
          rw [hbl, Nat.zero_add]
          rfl
        exact (((h5.set 4 (.int .i64 (nn : Int)) (c' := ⟨c'.g, nn, c'.size, c'.loose⟩) rfl).set 5 (.int .i64 0) (c' := ⟨c'.g, nn, 0, c'.loose⟩) rfl).set 5 _ e1).set 6 (.bool true) rfl
      have hkA := (((hk5.trans (hkS w5 4 (.int .i64 (nn : Int)))).trans (hkS _ 5 (.int .i64 0))).trans (hkS _ 5 (.int .i64 (n : Int)))).trans (hkS _ 6 (.bool true))
      go_wp2
      go_ret
      rw [hbl, Nat.zero_add] at hS
      exact ⟨rfl, G5, hS, hkA, hG5⟩
  · have z : ((en : Int) == 0) = false := by rw [beq_eq_false_iff_ne]; omega
    have z2 : ¬ (en : Int) = 0 := by omega
    have hres := HE3.out.symm
    rw [if_neg h0] at hres
    subst hres
    go_wp2
    go_ret
    refine ⟨rfl, ?_⟩
    first
      | exact ⟨G5, h5, hk5, hG5⟩
      | (have hE : (if en = 13 then true else false : Bool) = decide (en = 13) := by by_cases h9 : en = 13 <;> simp [h9]
         rw [hE] at h5
         exact ⟨G5, h5, hk5, hG5⟩)
end Go.Proofs.YtikkieaokfailaaGreatDoor

namespace Go.Proofs.YtikkieaokfailaaGreatDoor
open Go.RowKit Go.Joins
structure RLogAt (w : World) (G H : Nat → Prop) (rl rd : Nat) (l : Lg) (k : Dk) : Prop where
 ex : ∃ v, RD w G rl rd l.most v l.ch l.dn k ∧ RcA w H v l.recs
 hf : ∀ i, H i → ¬ G i
 hl : ¬ H rl
 lt : ∀ i, H i → i < w.heap.size
def Rgp (w : World) (G H : Nat → Prop) (rl rd : Nat) (l : Lg) (k : Dk) (w' : World) : Prop := ∃ G' H', RLogAt w' G' H' rl rd l k ∧ Keep (fun i => G i ∨ H i ∨ i = rl) w w' ∧ (∀ i, G' i → G i ∨ w.heap.size ≤ i) ∧ (∀ i, H' i → H i ∨ w.heap.size ≤ i)
section
variable {w w' w1 : World} {G H G1 H1 : Nat → Prop} {rl rd : Nat} {l : Lg} {k : Dk}
theorem RLogAt.below (h : RLogAt w G H rl rd l k) (hb : Below w.heap.size w w') : RLogAt w' G H rl rd l k := by
 obtain ⟨v, h1, h2⟩ := h.ex
 exact ⟨⟨v, h1.below hb, h2.keep (S := fun _ => False) (Keep.ofBelow hb) (fun _ _ h => h) (fun _ h => h)⟩, h.hf, h.hl, fun i hi => Nat.lt_of_lt_of_le (h.lt i hi) hb.size⟩
theorem RLogAt.keep {S : Nat → Prop} (h : RLogAt w G H rl rd l k) (hk : Keep S w w') (hG : ∀ i, G i → ¬ S i) (hH : ∀ i, H i → ¬ S i) (hl : ¬ S rl) : RLogAt w' G H rl rd l k := by
 obtain ⟨v, h1, h2⟩ := h.ex
 exact ⟨⟨v, h1.keep hk hG hl, h2.keep hk hH (fun _ h => h)⟩, h.hf, h.hl, fun i hi => Nat.lt_of_lt_of_le (h.lt i hi) hk.size⟩
theorem Rgp.refl (h : RLogAt w G H rl rd l k) : Rgp w G H rl rd l k w := ⟨G, H, h, Keep.refl _ _, fun _ h => Or.inl h, fun _ h => Or.inl h⟩
theorem Rgp.from (hb : Below w.heap.size w w1) (h : Rgp w1 G H rl rd l k w') : Rgp w G H rl rd l k w' := by
 obtain ⟨G', H', h1, h2, h3, h4⟩ := h
 exact ⟨G', H', h1, (Keep.ofBelow hb).trans h2, fun i hi => (h3 i hi).imp id (fun h => Nat.le_trans hb.size h), fun i hi => (h4 i hi).imp id (fun h => Nat.le_trans hb.size h)⟩
theorem RLogAt.rlp {v : Value} {c' : Ch} {dn' : Bool} {k' : Dk} (h : RLogAt w G H rl rd l k) (hR : RcA w H v l.recs) (hp : Rlp w G rl rd l.most v c' dn' k' w') : Rgp w G H rl rd ⟨l.most, l.recs, c', dn'⟩ k' w' := by
 obtain ⟨G', h1, h2, h3⟩ := hp
 have hHl := h.lt
 refine ⟨G', H, ⟨⟨v, h1, hR.keep h2 (fun i hi hs => ?_) (fun _ h => h)⟩, fun i hi hg => ?_, h.hl, fun i hi => Nat.lt_of_lt_of_le (hHl i hi) h2.size⟩, h2.mono (fun i hi => hi.elim Or.inl (fun e => Or.inr (Or.inr e))), h3, fun i hi => Or.inl hi⟩
 ·rcases hs with hs | hs
  ·exact h.hf i hi hs
  ·rw [hs] at hi; exact h.hl hi
 ·rcases h3 i hg with h9 | h9
  ·exact h.hf i hi h9
  ·have := hHl i hi; omega
end
theorem lay_dead (most : Nat) (c : Ch) (b : List Int) (k : Dk) : layL most c b true k = (13, c, true, k) := by
 have hp : ∀ i sz, putS i sz c b true k = (13, c, true, k) := fun i sz => by
  unfold putS stp
  rw [if_pos rfl]
  rfl
 unfold layL
 split
 ·unfold settleL
  cases hl : c.loose with
  | true =>
   rw [if_pos rfl]
   unfold stp
   rw [if_pos rfl]
   rfl
  | false =>
   rw [if_neg (show ¬ (false = true) by decide), if_neg (by simp)]
   exact hp _ _
 ·exact hp _ _
theorem append_dead (l : Lg) (k : Dk) (xs : List Int) (h : l.dn = true) (hx : xs.length ≤ 1048576) : appendT l k xs = (13, l, k) := by
 unfold appendT appendL
 rw [if_neg (by omega), h, lay_dead]
 dsimp only
 rw [if_neg (by decide), ← h]
set_option maxRecDepth 100000 in
set_option maxHeartbeats 4000000 in
theorem rappend_any (w : World) (G H : Nat → Prop) (rl rd : Nat) (l : Lg) (k : Dk) (h : RLogAt w G H rl rd l k) (ok : l.Ok) (hz0 : l.ch.cnt = 0 → l.ch.size = 0) (hst : k.steps < 999990) (hfl : k.fs.length < 999990)
  (a : Option Addr) (n c : Nat) (xs : List Int) (hR : Rd w a n c xs) (hRG : ∀ ad, a = some ad → ¬ G ad.block ∧ ad.block ≠ rl) :
  Calls Tryz.prog 33 #[.pointer (some ⟨rl, 0, none⟩), .slice a n c] w fun e w' => e = .returned (.int .i64 ((appendT l k xs).1 : Int)) ∧ Rgp w G H rl rd (appendT l k xs).2.1 (appendT l k xs).2.2 w' := by
 obtain ⟨v, hD, hRc⟩ := h.ex
 have q7 := hD.c7
 have hl := hR.len
 have hcp := hR.cap
 have hmx : c ≤ 9223372036854775807 := hR.most
 by_cases hbig : 1048576 < n
 ·have z : (1048576 : Int) < (n : Int) := by omega
  have hE : appendT l k xs = (5, l, k) := by unfold appendT; rw [if_pos (by omega)]
  rw [hE]
  clear hE hbig
  go_enter Tryz.func33, Tryz.ntmps33
  go_wp2
  go_ret
  exact ⟨rfl, Rgp.refl h⟩
 ·have z : ¬ (1048576 : Int) < (n : Int) := by omega
  cases hd : l.dn with
  | true =>
   rw [append_dead l k xs hd (by omega)]
   rw [hd] at q7
   clear hbig
   go_enter Tryz.func33, Tryz.ntmps33
   go_wp2
   go_ret
   exact ⟨rfl, Rgp.refl h⟩
  | false =>
   rw [hd] at q7
   have hD' := hD
   rw [hd] at hD'
   have hfo := rform_any a n c xs w hR (by omega)
   have hfb : Bd (formL xs) := by unfold formL; exact ((bigL_bd _ _).append (bigL_bd _ _)).append hR.bytes
   have hE : appendT l k xs = ((layL l.most l.ch (formL xs) false k).1, ⟨l.most, (if (layL l.most l.ch (formL xs) false k).1 = 0 then l.recs ++ [xs] else l.recs), (layL l.most l.ch (formL xs) false k).2.1, (layL l.most l.ch (formL xs) false k).2.2.1⟩, (layL l.most l.ch (formL xs) false k).2.2.2) := by
    unfold appendT appendL
    rw [if_neg (by omega), hd]
   rw [hE]
   clear hE
   have hla := fun w' (hb : Below w.heap.size w w') a' n' c' hR' (hn' : n' ≤ 2000000) hRG' => rlay_any w' G rl rd l.most v l.ch k (hD'.below hb) ok.g (by have := ok.cnt; omega) (by have := ok.size; omega) (by have := ok.most; omega) hz0 hst hfl a' n' c' (formL xs) hR' hn' hRG'
   obtain ⟨P, HP⟩ : ∃ P, layL l.most l.ch (formL xs) false k = P := ⟨_, rfl⟩
   rw [HP]
   simp only [HP] at hla
   clear HP
   obtain ⟨en, c2, dn2, k2⟩ := P
   dsimp only at hla ⊢
   have hrl := hD.lt
   have hGl := hD.R.lt
   have hHl := h.lt
   clear hbig
   go_enter Tryz.func33, Tryz.ntmps33
   go_upto_region 6 with (first
    | (go_at_call 76; refine hfo.mono ?_; rintro e w1 ⟨v1, rfl, o1, hb1⟩; obtain ⟨a1, c1, rfl, r1⟩ := Rd.ofOwn o1 hfb)
    | (go_at_call 75; refine (hla w1 hb1 a1 (8 + n) c1 r1 (by omega) (fun ad had => by
      rcases o1.2 with ⟨e, _⟩ | ⟨g, cap, cur, e, hg, hgc, _⟩
      ·injection e with e1; rw [e1] at had; cases had
      ·injection e with e1; rw [e1] at had; cases had
       exact ⟨fun hf => by have := hGl _ hf; dsimp only at this; omega, by dsimp only; omega, (Array.getElem?_eq_some_iff.1 hgc).1⟩)).mono ?_; rintro e w2 ⟨rfl, hp2⟩))
   have h2 := (h.below hb1).rlp (hRc.keep (S := fun _ => False) (Keep.ofBelow hb1) (fun _ _ h => h) (fun _ h => h)) hp2
   have hks2 : Keep (fun i => G i ∨ i = rl) w1 w2 := by obtain ⟨_, _, hk, _⟩ := hp2; exact hk
   have hR2 : Rd w2 a n c xs := (hR.carry (Nat.le_refl _) hb1).keep hks2 (fun ad had hs => hs.elim (hRG ad had).1 (hRG ad had).2)
   clear hfo hla q7 r1 o1
   by_cases h0 : en = 0
   ·subst h0
    obtain ⟨G2, H2, hA2, hk2, hG2, hH2⟩ := h2
    obtain ⟨v2, hD2, hRc2⟩ := hA2.ex
    have z0 : ((0 : Nat) : Int) = 0 := rfl
    go_upto_region 7 with fail
    have hbX : Below w2.heap.size w2 w2.drew := (Below.refl _ _).drew
    have hDX := hD2.below hbX
    have hRX := hRc2.keep (S := fun _ => False) (H' := H2) (Keep.ofBelow hbX) (fun _ _ h => h) (fun _ h => h)
    have hrX := hR2.carry (Nat.le_refl _) hbX
    have hsX : w2.drew.heap.size = w2.heap.size := rfl
    have hkX : Keep (fun i => G i ∨ H i ∨ i = rl) w w2.drew := ((Keep.ofBelow hb1).trans hk2).drew
    have HS0 : w2.drew.cell? ⟨rl, 3, none⟩ = some v2 := hDX.c3
    refine wp_region_lx (fun w' => w'.cell? ⟨rl, 3, none⟩ = some v2) [12] 13 (by kernel_rfl) (by kernel_rfl) ?_
    have hlt2 := hA2.lt
    have hf2 := hA2.hf
    have hl2 := hA2.hl
    have hG2l := hD2.R.lt
    clear hA2 hD2 hRc2 hR2 hk2 hks2 hp2
    generalize w2.drew = X at *
    refine lx_r 0 (.pointer (some ⟨rl, 0, none⟩)) HS0 ?_; simp only [lxa, lxb, lxc]
    refine lx_r 1 (.pointer (some ⟨rl, 0, none⟩)) HS0 ?_; simp only [lxa, lxb, lxc]
    refine lx_r 2 (.pointer (some ⟨rl, 0, none⟩)) HS0 ?_; simp only [lxa, lxb, lxc]
    refine lx_r 3 (.pointer (some ⟨rl, 3, none⟩)) HS0 ?_; simp only [lxa, lxb, lxc]
    refine lx_r 4 v2 HS0 ?_ (hv := fun w' hS => by have q := hS; first | (go_simp; rfl) | go_simp); simp only [lxa, lxb, lxc]
    refine lx_r 6 (.slice a n c) HS0 ?_; simp only [lxa, lxb, lxc]
    have t5 : ∀ p x, X.cell? p = some x → (X.alloc (.cells #[] 5)).cell? p = some x := fun p x hx => ((Keep.refl (fun _ => False) X).alloc _).cell hx (fun h => h)
    refine lx_one 5 (by kernel_rfl) (stepT_val (w' := X.alloc (.cells #[] 5)) (.slice (some ⟨X.heap.size, 0, none⟩) 0 0) rfl rfl rfl ?r5 (fun _ => t5 _ _ HS0) ?_)
    case r5 => first | (go_simp; rfl) | go_simp
    simp only [lxa, lxb, lxc]
    have hown5 : (X.alloc (.cells #[] 5)).ownsRow X.heap.size 5 1 (.slice (some ⟨X.heap.size, 0, none⟩) 0 0) 0 (bc []) := World.ownsRow_made X #[] 0 (Nat.le_refl _) (by unfold maxLen; omega) rfl
    have hb5 : Below X.heap.size X (X.alloc (.cells #[] 5)) := (Below.refl _ _).alloc (Nat.le_refl _) _
    obtain ⟨v7, w7, hrun7, o7, hb7⟩ := run_appJ 29 hown5 (hrX.carry (Nat.le_refl _) hb5) (by omega) hb5.size
    rw [Nat.zero_add, List.nil_append] at o7
    have hbX7 : Below X.heap.size X w7 := hb5.trans hb7
    obtain ⟨a7, c7, rfl, _⟩ := Rd.ofOwn o7 hR.bytes
    have t7 : w7.cell? ⟨rl, 3, none⟩ = some v2 := (hbX7.cell (World.block_lt_of_cell? _ _ HS0)).trans HS0
    refine lx_one 7 (by kernel_rfl) (stepT_val (w' := w7) (.slice a7 n c7) rfl rfl rfl (exec_appJ rfl rfl rfl hrun7) (fun _ => t7) ?_)
    simp only [lxa, lxb, lxc]
    have t8 : (w7.alloc (.cells #[.slice a7 n c7] 29)).cell? ⟨rl, 3, none⟩ = some v2 := ((Keep.refl (fun _ => False) w7).alloc _).cell t7 (fun h => h)
    refine lx_one 8 (by kernel_rfl) (stepT_val (w' := w7.alloc (.cells #[.slice a7 n c7] 29)) (.slice (some ⟨w7.heap.size, 0, none⟩) 1 1) rfl rfl rfl ?r8 (fun _ => t8) ?_)
    case r8 => first | (go_simp; rfl) | go_simp
    simp only [lxa, lxb, lxc]
    obtain ⟨⟨vs, ov, hvs⟩, hvo⟩ := hRX.keep (S := fun _ => False) (H' := H2) (Keep.ofBelow hbX7) (fun _ _ h => h) (fun _ h => h)
    obtain ⟨v9, w9, hrun9, ov9, hk9, hwh9⟩ := run_appW 30 ov a7 n c7 ok.recs (Nat.zero_le _)
    obtain ⟨a9, c9, rfl⟩ := own_sl ov9
    have nrl : ¬ v2.ownBlock = some rl := fun hv => hl2 (hvo rl hv)
    have t9 : w9.cell? ⟨rl, 3, none⟩ = some v2 := hk9.cell (p := ⟨rl, 3, none⟩) t7 nrl
    refine lx_one 9 (by kernel_rfl) (stepT_val (w' := w9) (.slice a9 (l.recs.length + 1) c9) rfl rfl rfl (exec_appW rfl rfl rfl hrun9) (fun _ => t9) ?_)
    simp only [lxa, lxb, lxc]
    refine lx_one 10 (by kernel_rfl) (stepT_val (w' := w9) (.pointer (some ⟨rl, 0, none⟩)) rfl rfl rfl ?r10 (fun _ => t9) ?_)
    case r10 => first | (go_simp; rfl) | go_simp
    simp only [lxa, lxb, lxc]
    refine lx_one 11 (by kernel_rfl) (stepT_val (w' := w9) (.pointer (some ⟨rl, 3, none⟩)) rfl rfl rfl ?r11 (fun _ => t9) ?_)
    case r11 => first | (go_simp; rfl) | go_simp
    simp only [lxa, lxb, lxc]
    have hD9 : RD w9 G2 rl rd l.most v2 c2 dn2 k2 := (hDX.below hbX7).keep hk9 (fun i hi hv => hf2 i (hvo i hv) hi) nrl
    have f9 := hD9.fz 3
    refine lx_one 12 (by kernel_rfl) (stepT_store (w' := w9.setCell ⟨rl, 3, none⟩ (.slice a9 (l.recs.length + 1) c9)) rfl rfl rfl ?r12 (fun h => by cases h) ?_)
    case r12 => first | (go_simp; rfl) | go_simp
    refine lx_nil (by kernel_rfl) ?_
    have hDz : RD (w9.setCell ⟨rl, 3, none⟩ (.slice a9 (l.recs.length + 1) c9)) G2 rl rd l.most (.slice a9 (l.recs.length + 1) c9) c2 dn2 k2 := hD9.set 3 _ rfl
    have hkz : Keep (fun i => i = rl) w9 (w9.setCell ⟨rl, 3, none⟩ (.slice a9 (l.recs.length + 1) c9)) := (Keep.refl (fun i => i = rl) w9).setCell (p := ⟨rl, 3, none⟩) rfl _
    have h7s := hbX7.size
    have h9s := hk9.size
    have hXs := hkX.size
    have hRz : RcA w9 (fun i => H2 i ∨ (X.heap.size ≤ i ∧ i < w9.heap.size)) (.slice a9 (l.recs.length + 1) c9) (l.recs ++ [xs]) := by
     refine RcA.app (vs := vs) (u := .slice a7 n c7) ov (fun i r hr => ?_) ov9 hk9 (by rw [hl]; exact own_weak o7 (Nat.zero_le _)) (fun g hg => ?_) hR.bytes (fun g hg => ?_)
     ·obtain ⟨u2, m1, m2, m3, m4⟩ := hvs i r hr
      exact ⟨u2, m1, m2, fun g hg => Or.inl (m3 g hg), m4⟩
     ·have := o7.lt g hg
      exact Or.inr ⟨this.1, by omega⟩
     ·rcases hwh9 with h9 | ⟨g9, h9, h10⟩
      ·exact Or.inl (hvo g (by rw [← h9]; exact hg))
      ·rw [h9] at hg
       injection hg with hg
       subst hg
       obtain ⟨cur, e⟩ := own_blkT ov9 h9
       exact Or.inr ⟨by omega, (Array.getElem?_eq_some_iff.1 e).1⟩
    have hrlX : rl < X.heap.size := hDX.lt
    have hfin : Rgp w G H rl rd ⟨l.most, l.recs ++ [xs], c2, dn2⟩ k2 (w9.setCell ⟨rl, 3, none⟩ (.slice a9 (l.recs.length + 1) c9)) := by
     refine ⟨G2, fun i => H2 i ∨ (X.heap.size ≤ i ∧ i < w9.heap.size), ⟨⟨_, hDz, hRz.keep hkz (fun i hi e => ?_) (fun _ h => h)⟩, fun i hi hg => ?_, fun hh => ?_, fun i hi => ?_⟩, ((hkX.trans (Keep.ofBelow hbX7)).andThen hk9 (fun i hi hv => ?_)).andThen hkz (fun i hi e => Or.inr (Or.inr e)), fun i hi => (hG2 i hi).imp id (fun h => by have := hb1.size; omega), fun i hi => ?_⟩
     ·subst e
      rcases hi with hi | hi
      ·exact hl2 hi
      ·omega
     ·rcases hi with hi | hi
      ·exact hf2 i hi hg
      ·have := hG2l i hg; omega
     ·rcases hh with hh | hh
      ·exact hl2 hh
      ·omega
     ·have := hkz.size
      rcases hi with hi | hi
      ·have := hlt2 i hi; omega
      ·omega
     ·rcases hH2 i (hvo i hv) with h9 | h9
      ·exact Or.inr (Or.inl h9)
      ·have := hb1.size; omega
     ·rcases hi with hi | hi
      ·exact (hH2 i hi).imp id (fun h => by have := hb1.size; omega)
      ·exact Or.inr (by omega)
    go_wp2
    go_ret
    exact ⟨rfl, hfin⟩
   ·have zz : ((en : Int) == 0) = false := by rw [beq_eq_false_iff_ne]; omega
    have zz2 : ¬ (en : Int) = 0 := by omega
    have h3 := Rgp.from hb1 h2
    go_wp2
    go_ret
    refine ⟨rfl, ?_⟩
    first
     | exact h3
     | (rw [if_neg h0]; exact h3)
end Go.Proofs.YtikkieaokfailaaGreatDoor

namespace Go.Proofs.YtikkieaokfailaaGreatDoor
open Go.RowKit Go.Joins
def undoL (c : Ch) (nb : Bool) (k : Dk) : Nat × Bool × Dk :=
 if (remC c false k).1 ≠ 0 then remC c false k else
 if nb = false then (8, (remC c false k).2) else
 if (remNewL (remC c false k).2.1 (remC c false k).2.2).1 ≠ 0 then remNewL (remC c false k).2.1 (remC c false k).2.2 else (8, (remNewL (remC c false k).2.1 (remC c false k).2.2).2)
theorem new_has (k : Dk) : inN sNew (listK k).2 = decide ((readK k sNew).1 = 0) := by
 unfold listK readK
 by_cases ho : k.off = true
 ·rw [if_pos ho, if_pos ho]
  rfl
 ·rw [if_neg ho, if_neg ho, if_neg (show ¬ isNm sNew = false by decide)]
  cases hl : look k.fs sNew with
  | none =>
   rw [inN_no (fun hm => by
    have := look_isSome.2 hm
    rw [hl] at this
    cases this)]
   rfl
  | some f =>
   rw [inN_iff.2 (look_isSome.1 (by rw [hl]; rfl))]
   rfl
set_option maxRecDepth 100000 in
set_option maxHeartbeats 4000000 in
theorem rundo_any (w : World) (G : Nat → Prop) (rl rd most : Nat) (v : Value) (c : Ch) (k : Dk) (h : RD w G rl rd most v c false k) (rh most2 : Nat) (v2 : Value) (c2 : Ch) (dn2 : Bool)
  (hh : w.heap[rh]? = some (.cells (rlcs rd most2 v2 c2 dn2) 90 (0, 0))) (nh : ¬ G rh ∧ rh ≠ rl) (nb : Bool) (hg : c2.g < 18446744073709551616) (hc : c2.cnt ≤ 100000) (hst : k.steps + c2.cnt < 999990) (hfl : k.fs.length < 999990) :
  Calls Tryz.prog 77 #[.pointer (some ⟨rl, 0, none⟩), .pointer (some ⟨rh, 0, none⟩), .bool nb] w fun e w' => e = .returned (.int .i64 ((undoL c2 nb k).1 : Int)) ∧ Rlp w G rl rd most v c (undoL c2 nb k).2.1 (undoL c2 nb k).2.2 w' := by
 unfold undoL remC
 obtain ⟨R, HR⟩ : ∃ R, Hid (remAll (segs c2.g 0 c2.cnt) false k = R) := ⟨_, rfl⟩
 rw [HR.out]
 obtain ⟨eR, dnR, kR⟩ := R
 dsimp only
 obtain ⟨N, HN⟩ : ∃ N, Hid (c2.cnt = N) := ⟨_, rfl⟩
 obtain ⟨g, Hg⟩ : ∃ g, Hid (c2.g = g) := ⟨_, rfl⟩
 rw [HN.out] at hc hst
 rw [Hg.out] at hg
 have hR9 : Hid (remAll (segs g 0 (N - 0)) false k = (eR, dnR, kR)) := by
  have h9 := HR.out
  rw [Hg.out, HN.out] at h9
  exact h9
 clear HR
 obtain ⟨Q, HQ0⟩ : ∃ Q : Nat × Bool × Dk, Q = (if eR ≠ 0 then (eR, dnR, kR) else if nb = false then (8, dnR, kR) else if (remNewL dnR kR).1 ≠ 0 then remNewL dnR kR else (8, (remNewL dnR kR).2)) := ⟨_, rfl⟩
 rw [← HQ0]
 have HQ1 : Hid (Q = (if eR ≠ 0 then (eR, dnR, kR) else if nb = false then (8, dnR, kR) else if (remNewL dnR kR).1 ≠ 0 then remNewL dnR kR else (8, (remNewL dnR kR).2))) := HQ0
 clear HQ0
 have Hh : Hid (w.heap[rh]? = some (.cells (rlcs rd most2 v2 c2 dn2) 90 (0, 0))) := hh
 have Hd : Hid (RD w G rl rd most v c false k) := h
 clear hh h
 go_enter Tryz.func77, Tryz.ntmps77
 go_upto_region 2 with fail
 go_loopw [6, 7] (fun s6 s7 wr => ∃ (j : Nat) (G1 : Nat → Prop) (k1 : Dk), s6 = .int .i64 0 ∧ s7 = .int .i64 ((j : Int) + 1) ∧ j ≤ N ∧ k1.steps + (N - j) < 999990 ∧ k1.fs.length < 999990 ∧ Hid (RD wr G1 rl rd most v c false k1) ∧ Hid (Keep (fun i => G i ∨ i = rl) w wr) ∧ Hid (∀ i, G1 i → G i ∨ w.heap.size ≤ i) ∧ Hid (¬ G1 rh) ∧ Hid (wr.heap[rh]? = some (.cells (rlcs rd most2 v2 c2 dn2) 90 (0, 0))) ∧ Hid (remAll (segs g j (N - j)) false k1 = (eR, dnR, kR))) (fun _ s7 _ => N + 1 - (intOf s7).toNat)
 case atStart => exact ⟨0, G, k, rfl, rfl, Nat.zero_le _, by omega, hfl, Hd.out, Keep.refl _ _, fun i hi => Or.inl hi, nh.1, Hh.out, hR9.out⟩
 case round =>
  obtain ⟨j, G1, k1, rfl, rfl, hjN, hs1, hf1, HL, HK, HG, HB, HX, HQ⟩ := hrel
  have qc : wr.cell? ⟨rh, 4, none⟩ = some (.int .i64 (N : Int)) := by rw [cell_of_block HX.out, ← HN.out]; rfl
  have qg : wr.cell? ⟨rh, 2, none⟩ = some (.int .u64 (g : Int)) := by rw [cell_of_block HX.out, ← Hg.out]; rfl
  have hsw := HK.out.size
  have hrh : rh < wr.heap.size := (Array.getElem?_eq_some_iff.1 HX.out).1
  by_cases hle : j + 1 ≤ N
  ·have hz : (j : Int) + 1 ≤ (N : Int) := by omega
   have HQn : Hid (remAll (segN g (j + 1) :: segs g (j + 1) (N - (j + 1))) false k1 = (eR, dnR, kR)) := by
    have h9 := HQ.out
    have e : N - j = (N - (j + 1)) + 1 := by omega
    rw [e, segs_cons] at h9
    exact h9
   clear HQ
   have hbX : Below wr.heap.size wr wr.drew := (Below.refl _ _).drew
   have hX := HL.out.below hbX
   have hXh : wr.drew.heap[rh]? = some (.cells (rlcs rd most2 v2 c2 dn2) 90 (0, 0)) := box_below HX.out hbX
   have HS0 : wr.drew.cell? ⟨rl, 0, none⟩ = some (.pointer (some ⟨rd, 0, none⟩)) ∧ wr.drew.cell? ⟨rh, 2, none⟩ = some (.int .u64 (g : Int)) := ⟨hX.c0, by rw [cell_of_block hXh, ← Hg.out]; rfl⟩
   have hfi := rfile_any g (j + 1) hg (by omega) wr.drew
   have hj1 : ((j + 1 : Nat) : Int) = (j : Int) + 1 := by omega
   rw [hj1] at hfi
   have hnm := segN_size g (j + 1) hg (by omega)
   obtain ⟨s, Hs⟩ : ∃ s, Hid (segN g (j + 1) = s) := ⟨_, rfl⟩
   rw [Hs.out] at hfi hnm HQn
   have hrm := fun w' (hb : Below wr.heap.size wr w') => refRemove_any rd G1 k1 s (by omega) (by omega) (by omega) w' (HL.out.below hb).R
   have hstp := stpR_gr false k1 s
   have hst2 := stp_rd false k1 (removeK k1 s) rfl
   obtain ⟨P, HP⟩ : ∃ P, removeK k1 s = P := ⟨_, rfl⟩
   rw [HP] at hstp hst2
   simp only [HP] at hrm
   obtain ⟨en, k2⟩ := P
   dsimp only at hrm hst2
   rw [hst2] at hstp
   dsimp only at hstp
   have hdw := fun w' G' (h' : RD w' G' rl rd most v c false k2) => rdown_any w' G' rl rd most v c false k2 h' en
   have hsh : wr.heap.size = wr.drew.heap.size := rfl
   go_upto_region 4 with fail
   refine wp_region_lx (fun w' => w'.cell? ⟨rl, 0, none⟩ = some (.pointer (some ⟨rd, 0, none⟩)) ∧ w'.cell? ⟨rh, 2, none⟩ = some (.int .u64 (g : Int))) [] 14 (by kernel_rfl) (by kernel_rfl) ?_
   generalize wr.drew = X at *
   refine lx_r 0 (.pointer (some ⟨rl, 0, none⟩)) HS0 ?_; simp only [lxa, lxb, lxc]
   refine lx_r 1 (.pointer (some ⟨rl, 0, none⟩)) HS0 ?_; simp only [lxa, lxb, lxc]
   refine lx_r 2 (.pointer (some ⟨rl, 0, none⟩)) HS0 ?_; simp only [lxa, lxb, lxc]
   refine lx_r 3 (.pointer (some ⟨rl, 0, none⟩)) HS0 ?_; simp only [lxa, lxb, lxc]
   refine lx_r 4 (.pointer (some ⟨rd, 0, none⟩)) HS0 ?_ (hv := fun w' hS => by have q := hS.1; first | (go_simp; rfl) | go_simp); simp only [lxa, lxb, lxc]
   refine lx_r 5 (.pointer (some ⟨rh, 0, none⟩)) HS0 ?_; simp only [lxa, lxb, lxc]
   refine lx_r 6 (.pointer (some ⟨rh, 0, none⟩)) HS0 ?_; simp only [lxa, lxb, lxc]
   refine lx_r 7 (.pointer (some ⟨rh, 2, none⟩)) HS0 ?_; simp only [lxa, lxb, lxc]
   refine lx_r 8 (.int .u64 (g : Int)) HS0 ?_ (hv := fun w' hS => by have q := hS.2; first | (go_simp; rfl) | go_simp); simp only [lxa, lxb, lxc]
   refine lx_r 9 (.int .i64 ((j : Int) + 1)) HS0 ?_; simp only [lxa, lxb, lxc]
   refine lx_one 10 (by kernel_rfl) (stepT_call 82 ?a10 rfl rfl rfl ?r10 ?_)
   case r10 => first | (go_simp; rfl) | go_simp
   refine hfi.mono ?_
   rintro e w3 ⟨rfl, hb3⟩
   have h3 := hX.below hb3
   have hh3 : w3.heap[rh]? = some (.cells (rlcs rd most2 v2 c2 dn2) 90 (0, 0)) := box_below hXh hb3
   refine ⟨_, rfl, fun _ => ⟨h3.c0, by rw [cell_of_block hh3, ← Hg.out]; rfl⟩, ?_⟩
   simp only [lxa, lxb, lxc]
   refine lx_one 11 (by kernel_rfl) (stepT_call 81 ?a11 rfl rfl rfl ?r11 ?_)
   case r11 => first | (go_simp; rfl) | go_simp
   refine (hrm w3 (hbX.trans (hb3.mono (by omega)))).mono ?_
   rintro e w4 ⟨rfl, hp4⟩
   obtain ⟨G4, h4, hk4, hG4⟩ := h3.rp hp4
   have hh4 : w4.heap[rh]? = some (.cells (rlcs rd most2 v2 c2 dn2) 90 (0, 0)) := box_keep hh3 hk4 (fun h9 => h9.elim HB.out nh.2)
   refine ⟨_, rfl, fun _ => ⟨h4.c0, by rw [cell_of_block hh4, ← Hg.out]; rfl⟩, ?_⟩
   simp only [lxa, lxb, lxc]
   refine lx_one 12 (by kernel_rfl) (stepT_call 74 ?a12 rfl rfl rfl ?r12 ?_)
   case r12 => first | (go_simp; rfl) | go_simp
   refine (hdw w4 G4 h4).mono ?_
   rintro e w5 ⟨rfl, hp5⟩
   obtain ⟨G5, h5, hk5, hG5⟩ := Rlp.next hk4 hG4 hp5
   have hh5 : w5.heap[rh]? = some (.cells (rlcs rd most2 v2 c2 dn2) 90 (0, 0)) := box_keep hh3 hk5 (fun h9 => h9.elim HB.out nh.2)
   have HS5 : w5.cell? ⟨rl, 0, none⟩ = some (.pointer (some ⟨rd, 0, none⟩)) ∧ w5.cell? ⟨rh, 2, none⟩ = some (.int .u64 (g : Int)) := ⟨h5.c0, by rw [cell_of_block hh5, ← Hg.out]; rfl⟩
   refine ⟨_, rfl, fun _ => HS5, ?_⟩
   simp only [lxa, lxb, lxc]
   refine lx_r 13 (.int .i64 (en : Int)) HS5 ?_; simp only [lxa, lxb, lxc]
   refine lx_nil (by kernel_rfl) ?_
   have hall := Rlp.from (hbX.trans (hb3.mono (by omega))) ⟨G5, h5, hk5, hG5⟩
   have hs3 := hb3.size
   clear HS0 HS5 hk4 hG4 hp4 hp5 hfi hrm hdw hh4 h4 h3 hX
   by_cases h0 : en = 0
   ·subst h0
    rw [if_neg (by decide)] at h5
    have HQ2 : Hid (remAll (segs g (j + 1) (N - (j + 1))) false k2 = (eR, dnR, kR)) := by
     show _ = _
     rw [← remAll_ok (s := s) (dn := false) (k := k1) (by rw [HP]; exact hst2)]
     exact HQn.out
    clear HQn
    obtain ⟨G6, h6, hk6, hG6⟩ := hall
    go_wp2
    refine ⟨⟨j + 1, G5, k2, rfl, ?_, hle, by omega, by omega, h5, HK.out.andThen hk6 (fun q hq hs => ?_), fun q hq => ?_, fun hq => ?_, hh5, HQ2.out⟩, ?_⟩
    ·first | rfl | go_num
    ·rcases hs with hs | hs
     ·rcases HG.out q hs with h9 | h9
      ·exact Or.inl h9
      ·omega
     ·exact Or.inr hs
    ·exact (hG5 q hq).elim (HG.out q) (fun h9 => Or.inr (by omega))
    ·exact (hG5 rh hq).elim HB.out (fun h9 => by omega)
    ·simp [intOf]; omega
   ·have z : ((en : Int) == 0) = false := by rw [beq_eq_false_iff_ne]; omega
    have z2 : ¬ (en : Int) = 0 := by omega
    have hres := HQn.out.symm.trans (remAll_no (s := s) (dn := false) (k := k1) (by rw [HP]; exact hst2) h0)
    simp only [Prod.mk.injEq] at hres
    obtain ⟨e1, e2, e3⟩ := hres
    subst eR dnR kR
    clear HQn
    have hQe := HQ1.out
    rw [if_pos h0] at hQe
    subst hQe
    go_wp2
    go_ret
    exact ⟨rfl, Rlp.next HK.out HG.out hall⟩
  ·have hz : ¬ (j : Int) + 1 ≤ (N : Int) := by omega
   have hQ := HQ.out
   rw [show N - j = 0 from by omega] at hQ
   have hQ2 : (0, false, k1) = (eR, dnR, kR) := hQ
   simp only [Prod.mk.injEq] at hQ2
   obtain ⟨e1, e2, e3⟩ := hQ2
   subst eR dnR kR
   have hQe := HQ1.out
   rw [if_neg (by decide)] at hQe
   clear HQ hQ HQ1
   have q0 := HL.out.c0
   have hli := refList_any rd G1 k1 (by omega) wr HL.out.R
   have hnh := new_has k1
   cases nb with
   | false =>
    rw [if_pos rfl] at hQe
    subst hQe
    clear hnh
    go_wp2_with (first
     | (go_at_call 45; refine hli.mono ?_; rintro e w1 ⟨v1, rfl, o1, hb1⟩))
    go_ret
    exact ⟨rfl, Rlp.next HK.out HG.out (Rlp.ofBelow HL.out hb1)⟩
   | true =>
    rw [if_neg (by decide)] at hQe
    unfold remNewL at hQe
    have hha := fun w' v1 (ho : w'.ownsRow wr.heap.size 9 1 v1 (listK k1).2.length (nv (listK k1).2)) => rhas_any v1 (listK k1).2 sNew wr.heap.size w' ho
    rw [hnh] at hha
    by_cases hr : (readK k1 sNew).1 = 0
    ·rw [if_pos hr] at hQe
     simp only [hr, decide_true] at hha
     have hrm := fun w' (hb : Below wr.heap.size wr w') => refRemove_any rd G1 k1 sNew (by decide) (by omega) (by omega) w' (HL.out.below hb).R
     have hst2 := stp_rd false k1 (removeK k1 sNew) rfl
     rw [hst2] at hQe
     clear hst2
     unfold sNew at *
     obtain ⟨P, HP⟩ : ∃ P, removeK k1 ⟨#[98, 97, 115, 101, 46, 110, 101, 119]⟩ = P := ⟨_, rfl⟩
     rw [HP] at hQe
     simp only [HP] at hrm
     clear HP
     obtain ⟨en, k2⟩ := P
     dsimp only at hrm hQe
     have hdw := fun w' G' (h' : RD w' G' rl rd most v c false k2) => rdown_any w' G' rl rd most v c false k2 h' en
     by_cases h0 : en = 0
     ·subst h0
      rw [if_neg (by decide)] at hQe
      subst hQe
      go_wp2_with (first
       | (go_at_call 45; refine hli.mono ?_; rintro e w1 ⟨v1, rfl, o1, hb1⟩; have q1 := (HL.out.below hb1).c0)
       | (go_at_call 94; refine (hha w1 v1 o1).mono ?_; rintro e w2 ⟨rfl, rfl⟩)
       | (go_at_call 81; refine (hrm _ hb1).mono ?_; rintro e w3 ⟨rfl, hp3⟩; obtain ⟨G3, h3, hk3, hG3⟩ := (HL.out.below hb1).rp hp3)
       | (go_at_call 74; refine (hdw w3 G3 h3).mono ?_; rintro e w4 ⟨rfl, hp4⟩))
      go_ret
      exact ⟨rfl, Rlp.next HK.out HG.out (Rlp.from hb1 (Rlp.next hk3 hG3 hp4))⟩
     ·have z : ((en : Int) == 0) = false := by rw [beq_eq_false_iff_ne]; omega
      have z2 : ¬ (en : Int) = 0 := by omega
      rw [if_pos h0] at hQe
      subst hQe
      go_wp2_with (first
       | (go_at_call 45; refine hli.mono ?_; rintro e w1 ⟨v1, rfl, o1, hb1⟩; have q1 := (HL.out.below hb1).c0)
       | (go_at_call 94; refine (hha w1 v1 o1).mono ?_; rintro e w2 ⟨rfl, rfl⟩)
       | (go_at_call 81; refine (hrm _ hb1).mono ?_; rintro e w3 ⟨rfl, hp3⟩; obtain ⟨G3, h3, hk3, hG3⟩ := (HL.out.below hb1).rp hp3)
       | (go_at_call 74; refine (hdw w3 G3 h3).mono ?_; rintro e w4 ⟨rfl, hp4⟩))
      go_ret
      exact ⟨rfl, Rlp.next HK.out HG.out (Rlp.from hb1 (Rlp.next hk3 hG3 hp4))⟩
    ·rw [if_neg hr] at hQe
     rw [if_neg (fun h9 => h9 rfl)] at hQe
     subst hQe
     simp only [hr, decide_false] at hha
     unfold sNew at *
     go_wp2_with (first
      | (go_at_call 45; refine hli.mono ?_; rintro e w1 ⟨v1, rfl, o1, hb1⟩; have q1 := (HL.out.below hb1).c0)
      | (go_at_call 94; refine (hha w1 v1 o1).mono ?_; rintro e w2 ⟨rfl, rfl⟩))
     go_ret
     exact ⟨rfl, Rlp.next HK.out HG.out (Rlp.ofBelow HL.out hb1)⟩
end Go.Proofs.YtikkieaokfailaaGreatDoor

namespace Go.Proofs.YtikkieaokfailaaGreatDoor
open Go.RowKit Go.Joins
theorem part_any (b n c lo hi : Nat) (hl : lo ≤ hi) (hh : hi ≤ n) (hc : n ≤ c) (hc2 : c ≤ 9223372036854775807) (x y : Int) (hx : x = (lo : Int)) (hy : y = (hi : Int)) : ∃ o, (∀ W, (Instr.sliceAt 29 (.slice (some ⟨b, 0, none⟩) n c) (some (.int .i64 x)) (some (.int .i64 y)) none).run Tryz.prog W = .ok (.slice (some ⟨b, o, none⟩) (hi - lo) (c - lo)) W) ∧ (∀ (w : World) (xs : List Int), Rd w (some ⟨b, 0, none⟩) n c xs → Rd w (some ⟨b, o, none⟩) (hi - lo) (c - lo) ((xs.drop lo).take (hi - lo))) := by
 subst hx hy
 have h0 : (0 : Int) ≤ (lo : Int) := by omega
 have h1 : (lo : Int) ≤ (hi : Int) := by omega
 have h2 : (hi : Int) ≤ (c : Int) := by omega
 have h2n : (hi : Int) ≤ (n : Int) := by omega
 by_cases h8 : c = lo
 ·subst h8
  obtain rfl : hi = c := by omega
  obtain rfl : n = hi := by omega
  refine ⟨0, fun W => ?_, fun w xs h => ?_⟩
  ·go_simp
  ·have hl := h.len
   rw [Nat.sub_self, List.take_zero]
   exact ⟨rfl, Nat.le_refl _, by unfold maxLen; omega, (fun e => by cases e), Bd.nil, fun _ _ j hj => by omega⟩
 ·refine ⟨0 + lo, fun W => ?_, fun w xs h => (h.dropN (k := lo) (by omega)).take4 (by omega)⟩
  have h3 : ¬ (lo : Int) = (c : Int) := by omega
  have h4 : ¬ (c : Int) = (lo : Int) := by omega
  have h5 : ¬ lo = c := by omega
  go_simp
section
variable {X w3 w w1 w2 : World} {G H G1 H1 : Nat → Prop} {rl rd : Nat} {l : Lg} {k : Dk} {v : Value}
theorem Rgp.next (kp : Keep (fun i => G i ∨ H i ∨ i = rl) w w1) (e1 : ∀ i, G1 i → G i ∨ w.heap.size ≤ i) (e2 : ∀ i, H1 i → H i ∨ w.heap.size ≤ i) (h : Rgp w1 G1 H1 rl rd l k w2) : Rgp w G H rl rd l k w2 := by
 obtain ⟨F', H', h1, h2, h3, h4⟩ := h
 refine ⟨F', H', h1, kp.andThen h2 (fun i hi hs => ?_), fun i hi => ?_, fun i hi => ?_⟩
 ·rcases hs with hs | hs | hs
  ·rcases e1 i hs with h | h
   ·exact Or.inl h
   ·omega
  ·rcases e2 i hs with h | h
   ·exact Or.inr (Or.inl h)
   ·omega
  ·exact Or.inr (Or.inr hs)
 ·rcases h3 i hi with h | h
  ·exact e1 i h
  ·exact Or.inr (Nat.le_trans kp.size h)
 ·rcases h4 i hi with h | h
  ·exact e2 i h
  ·exact Or.inr (Nat.le_trans kp.size h)
theorem radd_rec (h : RLogAt X G H rl rd l k) (hD : RD X G rl rd l.most v l.ch l.dn k) (hRc : RcA X H v l.recs) (hb3 : Below X.heap.size X w3) {au : Option Addr} {n cu : Nat} {r : List Int} (ou : w3.ownsRow X.heap.size 5 1 (.slice au n cu) n (bc r)) (hn : r.length = n) (hbr : Bd r) {vs : List Value} (ov : w3.ownsRow 0 29 1 v l.recs.length vs)
  (hvs : ∀ (i : Nat) r, l.recs[i]? = some r → ∃ u, vs[i]? = some u ∧ w3.ownsRow 0 5 1 u r.length (bc r) ∧ (∀ g, u.ownBlock = some g → H g) ∧ Bd r) {w4 : World} {av : Option Addr} {cv : Nat} (ov4 : w4.ownsRow 0 29 1 (.slice av (l.recs.length + 1) cv) (l.recs.length + 1) (vs ++ [.slice au n cu])) (hk4 : Keep (fun q => v.ownBlock = some q) w3 w4) (hwh4 : (Value.slice av (l.recs.length + 1) cv).ownBlock = v.ownBlock ∨ ∃ g, (Value.slice av (l.recs.length + 1) cv).ownBlock = some g ∧ w3.heap.size ≤ g) :
  ∃ H9 : Nat → Prop, RLogAt (w4.setCell ⟨rl, 3, none⟩ (.slice av (l.recs.length + 1) cv)) G H9 rl rd ⟨l.most, l.recs ++ [r], l.ch, l.dn⟩ k ∧ Keep (fun i => G i ∨ H i ∨ i = rl) X (w4.setCell ⟨rl, 3, none⟩ (.slice av (l.recs.length + 1) cv)) ∧ (∀ i, H9 i → H i ∨ X.heap.size ≤ i) ∧ w4.frozen? ⟨rl, 3, none⟩ = false := by
 have hL3 := hD.below hb3
 have hvo := hRc.own
 have nlb : ¬ v.ownBlock = some rl := fun hv => h.hl (hvo rl hv)
 have hL4 : RD w4 G rl rd l.most v l.ch l.dn k := hL3.keep hk4 (fun i hi hv => h.hf i (hvo i hv) hi) nlb
 have hL5 : RD (w4.setCell ⟨rl, 3, none⟩ (.slice av (l.recs.length + 1) cv)) G rl rd l.most (.slice av (l.recs.length + 1) cv) l.ch l.dn k := hL4.set 3 _ rfl
 have hsz3 := hb3.size
 have hsz4 := hk4.size
 obtain ⟨H9, hH9⟩ : ∃ H9 : Nat → Prop, H9 = (fun i => H i ∨ (X.heap.size ≤ i ∧ i < w4.heap.size)) := ⟨_, rfl⟩
 have hHin : ∀ i, H i → H9 i := fun i hi => by rw [hH9]; exact Or.inl hi
 have hHout : ∀ i, H9 i → H i ∨ (X.heap.size ≤ i ∧ i < w4.heap.size) := fun i hi => by rw [hH9] at hi; exact hi
 have hu0 := own_weak ou (Nat.zero_le _)
 have hRA : RcA w4 H9 (.slice av (l.recs.length + 1) cv) (l.recs ++ [r]) := by
  refine RcA.app (vs := vs) (u := .slice au n cu) ov (fun i r hr => ?_) ov4 hk4 (by rw [hn]; exact hu0) (fun g hg => ?_) hbr (fun g hg => ?_)
  ·obtain ⟨u2, m1, m2, m3, m4⟩ := hvs i r hr
   exact ⟨u2, m1, m2, fun g hg => hHin g (m3 g hg), m4⟩
  ·rw [hH9]
   have := ou.lt g hg
   exact Or.inr ⟨this.1, by omega⟩
  ·rcases hwh4 with h9 | ⟨g9, h9, h10⟩
   ·exact hHin g (hvo g (by rw [← h9]; exact hg))
   ·rw [h9] at hg
    injection hg with hg
    subst hg
    rw [hH9]
    refine Or.inr ⟨by omega, ?_⟩
    obtain ⟨cur, e⟩ := own_blkT ov4 h9
    exact (Array.getElem?_eq_some_iff.1 e).1
 have hkS : Keep (fun i => i = rl) w4 (w4.setCell ⟨rl, 3, none⟩ (.slice av (l.recs.length + 1) cv)) := (Keep.refl (fun i => i = rl) w4).setCell (p := ⟨rl, 3, none⟩) rfl _
 have hlbX : rl < X.heap.size := hD.lt
 have hFX := hD.R.lt
 have hHlb : ¬ H9 rl := fun hh => (hHout rl hh).elim h.hl (fun h9 => by omega)
 have hRA5 := hRA.keep (H' := H9) hkS (fun i hi e => hHlb (by rw [← e]; exact hi)) (fun _ h => h)
 have hk34 : Keep (fun i => G i ∨ H i ∨ i = rl) X w4 := (Keep.ofBelow hb3).andThen hk4 (fun i hi hv => Or.inr (Or.inl (hvo i hv)))
 have hkE : Keep (fun i => G i ∨ H i ∨ i = rl) X (w4.setCell ⟨rl, 3, none⟩ (.slice av (l.recs.length + 1) cv)) := hk34.trans (hkS.mono (fun i e => Or.inr (Or.inr e)))
 refine ⟨H9, ⟨⟨_, hL5, hRA5⟩, fun i hi hf => ?_, hHlb, fun i hi => ?_⟩, hkE, fun i hi => ?_, hL4.fz 3⟩
 ·rcases hHout i hi with h9 | h9
  ·exact h.hf i h9 hf
  ·have := hFX i hf; omega
 ·have hs9 := hkS.size
  rcases hHout i hi with h9 | h9
  ·have := h.lt i h9; omega
  ·omega
 ·rcases hHout i hi with h9 | h9
  ·exact Or.inl h9
  ·exact Or.inr h9.1
theorem RLogAt.last (h : RLogAt w G H rl rd l k) (i z : Nat) (x y : Int) (hx : x = (i : Int)) (hy : y = (z : Int)) : RLogAt ((w.setCell ⟨rl, 4, none⟩ (.int .i64 x)).setCell ⟨rl, 5, none⟩ (.int .i64 y)) G H rl rd ⟨l.most, l.recs, { l.ch with cnt := i, size := z }, l.dn⟩ k ∧ Keep (fun i => i = rl) w ((w.setCell ⟨rl, 4, none⟩ (.int .i64 x)).setCell ⟨rl, 5, none⟩ (.int .i64 y)) := by
 obtain ⟨v, hD, hRc⟩ := h.ex
 subst hx hy
 have hkS : Keep (fun i => i = rl) w ((w.setCell ⟨rl, 4, none⟩ (.int .i64 (i : Int))).setCell ⟨rl, 5, none⟩ (.int .i64 (z : Int))) := ((Keep.refl (fun i => i = rl) w).setCell (p := ⟨rl, 4, none⟩) rfl _).setCell (p := ⟨rl, 5, none⟩) rfl _
 have hD1 : RD (w.setCell ⟨rl, 4, none⟩ (.int .i64 (i : Int))) G rl rd l.most v { l.ch with cnt := i } l.dn k := hD.set 4 _ rfl
 have hD2 : RD ((w.setCell ⟨rl, 4, none⟩ (.int .i64 (i : Int))).setCell ⟨rl, 5, none⟩ (.int .i64 (z : Int))) G rl rd l.most v { l.ch with cnt := i, size := z } l.dn k := hD1.set 5 _ rfl
 exact ⟨⟨⟨v, hD2, hRc.keep hkS (fun i hi e => h.hl (by rw [← e]; exact hi)) (fun _ h => h)⟩, h.hf, h.hl, fun i hi => Nat.lt_of_lt_of_le (h.lt i hi) hkS.size⟩, hkS⟩
end
end Go.Proofs.YtikkieaokfailaaGreatDoor
