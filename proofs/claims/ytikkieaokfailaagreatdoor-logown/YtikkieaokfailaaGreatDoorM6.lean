/- Texts of one seat, one behind the other: DkO, DkD, LgI, LgJ, LgK, LgL. -/
import Derived.Test.YtikkieaokfailaaGreatDoorM5
import Derived.Deep.LoopGhost
namespace Go.Proofs.YtikkieaokfailaaGreatDoor
open Go.RowKit Go.Joins
theorem own_set {w : World} {B sz n cap g : Nat} {t : TypeId} {xs : List Value} (h : w.ownsRow B t sz (.slice (some ⟨g, 0, none⟩) n cap) n xs) {i : Nat} (u : Value) : (w.setCell ⟨g, i, none⟩ u).ownsRow B t sz (.slice (some ⟨g, 0, none⟩) n cap) n (xs.set i u) := by
 obtain ⟨h1, h2⟩ := h
 refine ⟨by rw [List.length_set]; exact h1, ?_⟩
 rcases h2 with ⟨h2, _⟩ | ⟨g', cap', cur, hv, hg, hh, hn, hc, hs, ht⟩
 ·cases h2
 ·cases hv
  refine Or.inr ⟨g, cap, cur.setIfInBounds i u, rfl, hg, block_setCell hh u, hn, hc, by simp [hs], ?_⟩
  rw [Array.toList_setIfInBounds, List.take_set, ht]
theorem ev_mid (sl : Nm → Value) (p q : Fls) (s : Nm) (f : Fle) : ev sl (p ++ (s, f) :: q) = ev sl p ++ (.string s :: sl s :: .int .i64 (f.safe : Int) :: ev sl q) := by rw [ev_app]; rfl
theorem ev_setB (sl sl' : Nm → Value) (p q : Fls) (s : Nm) (f : Fle) (b' : List Int) (v : Value) (hs : sl' s = v) (hp : ∀ x ∈ p, sl' x.1 = sl x.1) (hq : ∀ x ∈ q, sl' x.1 = sl x.1) : (ev sl (p ++ (s, f) :: q)).set (p.length * 3 + 1) v = ev sl' (p ++ (s, ⟨b', f.safe⟩) :: q) := by
 rw [ev_mid, ev_mid, hs, ← ev_congr hp, ← ev_congr hq, List.set_append_right _ _ (by rw [ev_len]; omega), ev_len]
 rw [ev_congr hp]
 congr 1
 rw [show p.length * 3 + 1 - p.length * 3 = 1 by omega, ev_congr hq]
 rfl
theorem ev_setS (sl : Nm → Value) (p q : Fls) (s : Nm) (f : Fle) (n : Nat) : (ev sl (p ++ (s, f) :: q)).set (p.length * 3 + 2) (.int .i64 (n : Int)) = ev sl (p ++ (s, ⟨f.b, n⟩) :: q) := by
 rw [ev_mid, ev_mid, List.set_append_right _ _ (by rw [ev_len]; omega), ev_len]
 congr 1
 rw [show p.length * 3 + 2 - p.length * 3 = 2 by omega]
 rfl
theorem split_at {l : Fls} {j : Nat} {s : Nm} {f : Fle} (h : l[j]? = some (s, f)) : ∃ p q, l = p ++ (s, f) :: q ∧ p.length = j := by
 have hj : j < l.length := (List.getElem?_eq_some_iff.1 h).1
 have he : l[j] = (s, f) := (List.getElem?_eq_some_iff.1 h).2
 refine ⟨l.take j, l.drop (j + 1), ?_, by rw [List.length_take]; omega⟩
 rw [← he, ← List.drop_eq_getElem_cons hj, List.take_append_drop]
theorem RefAt.setB {w w0 : World} {G : Nat → Prop} {rd : Nat} {k : Dk} {s : Nm} {f : Fle} {j : Nat} {b' : List Int} {v : Value} (h : RefAt w0 G rd k) (hb : Below w0.heap.size w0 w) (hix : k.fs[j]? = some (s, f))
  (hv : w.ownsRow w0.heap.size 5 1 v b'.length (bc b')) (hg : ({ k with fs := putL k.fs s ⟨b', f.safe⟩ } : Dk).Good) :
  ∃ g cap, w.cell? ⟨rd, 0, none⟩ = some (.slice (some ⟨g, 0, none⟩) k.fs.length cap) ∧ k.fs.length ≤ cap ∧ (∃ u, w.cell? ⟨g, j * 3 + 1, none⟩ = some u) ∧ w.frozen? ⟨g, j * 3 + 1, none⟩ = false ∧ Rp w0 G rd { k with fs := putL k.fs s ⟨b', f.safe⟩ } (w.setCell ⟨g, j * 3 + 1, none⟩ v) := by
 have hjl : j < k.fs.length := (List.getElem?_eq_some_iff.1 hix).1
 have hlt := h.lt
 have hrise := h.good.rise
 obtain ⟨⟨v0, sl, hblk, hrow, hvG, hlies, hslv⟩, hGrd, _, _⟩ := h
 obtain ⟨g, cap, e, hcap, _, hcs⟩ := row3 hrow (by omega)
 subst e
 have hgl := hrow.lt g rfl
 have hblkw := box_below hblk hb
 have hroww := own_keep (S := fun _ => False) hrow (Keep.ofBelow hb) (fun _ _ h => h)
 obtain ⟨cur, hcur⟩ := own_blk hroww (g := g) rfl
 have hgne : g ≠ rd := fun e => by subst e; rw [hblkw] at hcur; cases hcur
 have hcell := (hb.cell (p := ⟨g, j * 3 + 1, none⟩) hgl.2).trans (hcs j (s, f) hix).2.1
 refine ⟨g, cap, by rw [cell_of_block hblkw]; rfl, hcap, ⟨_, hcell⟩, unfrozen_of_block hcur _, ?_⟩
 obtain ⟨p, q, hl, hp⟩ := split_at hix
 have hr2 : Rise (p ++ (s, f) :: q) := by rw [← hl]; exact hrise
 have hput : putL k.fs s ⟨b', f.safe⟩ = p ++ (s, ⟨b', f.safe⟩) :: q := by rw [hl]; exact put_mid hr2
 have hnp : ∀ x ∈ p, x.1 ≠ s := fun x hx e => by
  have hnd := rise_nodup hr2
  rw [List.map_append, List.map_cons] at hnd
  have := (List.nodup_append.1 hnd).2.2 x.1 (List.mem_map_of_mem hx) s (List.mem_cons_self ..)
  exact this e
 have hnq : ∀ x ∈ q, x.1 ≠ s := fun x hx e => by
  have hnd := rise_nodup hr2
  rw [List.map_append, List.map_cons] at hnd
  have h2 := (List.nodup_cons.1 (List.nodup_append.1 hnd).2.1).1
  exact h2 (List.mem_map.2 ⟨x, hx, e⟩)
 obtain ⟨sl', hsl'⟩ : ∃ sl' : Nm → Value, sl' = fun t => if t = s then v else sl t := ⟨_, rfl⟩
 have hss : sl' s = v := by rw [hsl']; simp
 have hso : ∀ t, t ≠ s → sl' t = sl t := fun t ht => by rw [hsl']; simp [ht]
 have hone : ∀ t, ∃ a n c, sl' t = .slice a n c := fun t => by
  by_cases h : t = s
  ·rw [h, hss]
   obtain ⟨a, c, e, _⟩ := Rd.ofRowE hv
   exact ⟨a, _, c, e⟩
  ·rw [hso t h]; exact hslv t
 have hkS : Keep (fun i => i = g) w (w.setCell ⟨g, j * 3 + 1, none⟩ v) := (Keep.refl (fun i => i = g) w).setCell (p := ⟨g, j * 3 + 1, none⟩) rfl _
 have hk0 : Keep (fun i => i = g) w0 (w.setCell ⟨g, j * 3 + 1, none⟩ v) := (Keep.ofBelow hb).trans hkS
 have hsz : (w.setCell ⟨g, j * 3 + 1, none⟩ v).heap.size = w.heap.size := by simp [World.setCell]
 refine ⟨fun i => G i ∨ (w0.heap.size ≤ i ∧ i < w.heap.size), ⟨⟨.slice (some ⟨g, 0, none⟩) k.fs.length cap, sl', ?_, ?_, ?_, ?_, hone⟩, Or.inl hGrd, ?_, hg⟩, hk0.mono (fun i e => by subst e; exact hvG _ rfl), fun i hi => hi.imp id (fun h => h.1)⟩
 ·exact box_keep hblkw hkS (fun e => hgne e.symm)
 ·show World.ownsRow _ _ _ _ _ (putL k.fs s ⟨b', f.safe⟩).length (ev sl' (putL k.fs s ⟨b', f.safe⟩))
  have hlen : (putL k.fs s ⟨b', f.safe⟩).length = k.fs.length := by rw [hput, hl]; simp
  rw [hlen, hput, ← ev_setB sl sl' p q s f b' v hss (fun x hx => hso _ (hnp x hx)) (fun x hx => hso _ (hnq x hx)), ← hl, hp]
  exact own_set hroww v
 ·intro g' hg'
  exact Or.inl (hvG g' hg')
 ·intro x hx
  have hm : x ∈ putL k.fs s ⟨b', f.safe⟩ := hx
  rw [hput] at hm
  rcases List.mem_append.1 hm with hx | hx
  ·rw [hso _ (hnp x hx)]
   have hin : x ∈ k.fs := by rw [hl]; exact List.mem_append_left _ hx
   refine (hlies x hin).keep hk0 (fun g' hg' e => ?_) (fun _ h => Or.inl h)
   obtain ⟨cur', h2⟩ := own_blk (hlies x hin).1 hg'
   subst e
   obtain ⟨cur2, h3⟩ := own_blk hrow (g := g') rfl
   rw [h3] at h2; cases h2
  ·rcases List.mem_cons.1 hx with rfl | hx
   ·show Lies _ _ (sl' s) _
    rw [hss]
    refine ⟨own_weak (own_keep hv hkS (fun g' hg' e => ?_)) (Nat.zero_le _), fun g' hg' => Or.inr (hv.lt g' hg')⟩
    have := (hv.lt g' hg').1
    have := hgl.2
    omega
   ·rw [hso _ (hnq x hx)]
    have hin : x ∈ k.fs := by rw [hl]; exact List.mem_append_right _ (List.mem_cons_of_mem _ hx)
    refine (hlies x hin).keep hk0 (fun g' hg' e => ?_) (fun _ h => Or.inl h)
    obtain ⟨cur', h2⟩ := own_blk (hlies x hin).1 hg'
    subst e
    obtain ⟨cur2, h3⟩ := own_blk hrow (g := g') rfl
    rw [h3] at h2; cases h2
 ·intro i hi
  rw [hsz]
  rcases hi with h | h
  ·exact Nat.lt_of_lt_of_le (hlt i h) hb.size
  ·exact h.2
theorem pass_with (k : Dk) (l : Fls) : passK { k with fs := l } = ((passK k).1, { (passK k).2 with fs := l }) := by
 unfold passK
 dsimp only
 cases k.fu with
 | none => rfl
 | some n => cases n <;> rfl
theorem put_put (l : Fls) (hr : Rise l) (s : Nm) (f g : Fle) : putL (putL l s f) s g = putL l s g := by
 induction l with
 | nil =>
  rw [show putL [] s f = [(s, f)] from rfl, show putL [] s g = [(s, g)] from rfl]
  conv => lhs; unfold putL
  rw [if_neg (ltN_irrefl s), if_pos rfl]
 | cons q r ih =>
  obtain ⟨n, x⟩ := q
  conv => rhs; unfold putL
  rw [show putL ((n, x) :: r) s f = (if ltN s n then (s, f) :: (n, x) :: r else if n = s then (s, f) :: r else (n, x) :: putL r s f) by rfl]
  split
  ·unfold putL
   rw [if_neg (ltN_irrefl s), if_pos rfl]
  ·rename_i h1
   split
   ·unfold putL
    rw [if_neg (ltN_irrefl s), if_pos rfl]
   ·rename_i h2
    conv => lhs; unfold putL
    rw [if_neg h1, if_neg h2, ih hr.2]
set_option maxRecDepth 100000 in
set_option maxHeartbeats 4000000 in
theorem refAppend_any (rd : Nat) (G : Nat → Prop) (k : Dk) (s : Nm) (hs : s.size ≤ 9223372036854775807) (a : Option Addr) (n c : Nat) (ys : List Int) (hst : k.steps < 1000000) (hfl : k.fs.length < 999999) (w : World) (hR : RefAt w G rd k) (hY : Rd w a n c ys) (hYG : ∀ ad, a = some ad → ¬ G ad.block) :
  Calls Tryz.prog 18 #[.pointer (some ⟨rd, 0, none⟩), .string s, .slice a n c] w fun e w' => e = .returned (.int .i64 (appK k s ys).1) ∧ Rp w G rd (appK k s ys).2 w' := by
 have hF := first_any rd G k s hs false w hR
 have hgood := hR.good
 have hroom := hgood.room
 have husd := hgood.used
 by_cases h0 : firstK k s false = 0
 ·rw [h0] at hF
  have hon : k.off = false ∧ isNm s = true := by
   unfold firstK at h0
   cases h1 : k.off <;> cases h2 : isNm s <;> simp_all
  obtain ⟨on, hnm⟩ := hon
  have hU := fun w hR => refUsed_any rd G k w hR
  have hq1 : w.cell? ⟨rd, 1, none⟩ = some (.int .i64 (k.room : Int)) := by
   obtain ⟨⟨v, sl, hblk, _⟩, _⟩ := hR
   rw [cell_of_block hblk]; rfl
  have hw1 : IntKind.i64.wrap ((k.room : Int) - (used k.fs : Int)) = (k.room : Int) - (used k.fs : Int) := by rw [IntKind.wrap_i64]; omega
  have hlen1 := fun w => len_slice a n c 29 3 w Tryz.underlying29
  by_cases hfit : n + used k.fs ≤ k.room
  ·have ep : appK k s ys = passK { k with fs := putL k.fs s ⟨((look k.fs s).map Fle.b).getD [] ++ ys, ((look k.fs s).map Fle.safe).getD 0⟩ } := by
    unfold appK
    rw [on, hnm, hY.len]
    simp [hfit]
   rw [ep, pass_with]
   have hng : ¬ (k.room : Int) - (used k.fs : Int) < (n : Int) := by omega
   have hgt : decide ((k.room : Int) - (used k.fs : Int) < (n : Int)) = false := by simp; omega
   have hPw := fun w hR => power_any rd G k hst w hR
   have hgp := good_pass hgood
   have hpfs := pass_fs k
   obtain ⟨P, HPe⟩ : ∃ P, Hid (passK k = P) := ⟨_, rfl⟩
   rw [HPe.out] at hPw hgp hpfs ⊢
   obtain ⟨en, k1⟩ := P
   dsimp only at hPw hgp hpfs ⊢
   have hproom : k1.room = k.room := by have h := HPe.out; unfold passK at h; split at h <;> (cases h; rfl)
   have hYk : ∀ (S : Nat → Prop) w', Keep S w w' → (∀ i, S i → G i ∨ w.heap.size ≤ i) → Rd w' a n c ys := fun S w' hk hS => ⟨hY.len, hY.cap, hY.most, hY.nil, hY.bytes, fun ad ha j hj => hk.cell (hY.cells ad ha j hj) (fun h => by
    have hlt := World.block_lt_of_cell? w _ (hY.cells ad ha j hj)
    have e : (ad.add j).block = ad.block := by unfold Addr.add; split <;> rfl
    rcases hS _ h with h | h
    ·rw [e] at h; exact hYG ad ha h
    ·omega)⟩
   clear ep
   go_enter Tryz.func18, Tryz.ntmps18
   go_upto_region 4 with (first
    | (go_at_call 55; refine hF.mono ?_; rintro e w1 ⟨rfl, rfl⟩))
   refine wp_region_lx (fun w' => w' = w1.drew) [] 10 (by kernel_rfl) (by kernel_rfl) ?_
   have hbX : Below w1.heap.size w1 w1.drew := (Below.refl _ _).drew
   have hRX := hR.below hbX
   have p1 : w1.drew.cell? ⟨rd, 1, none⟩ = some (.int .i64 (k.room : Int)) := hq1
   clear hq1 hF
   generalize w1.drew = X at *
   have HS0 : X = X := rfl
   refine lx_r 0 _ HS0 ?_; simp only [lxa, lxb, lxc]
   refine lx_r 1 (.int .i64 n) HS0 ?_ (hv := fun w' hS => by subst hS; first | (go_simp; rfl) | go_simp); simp only [lxa, lxb, lxc]
   refine lx_r 2 _ HS0 ?_; simp only [lxa, lxb, lxc]
   refine lx_r 3 _ HS0 ?_; simp only [lxa, lxb, lxc]
   refine lx_r 4 _ HS0 ?_; simp only [lxa, lxb, lxc]
   refine lx_r 5 (.int .i64 k.room) HS0 ?_ (hv := fun w' hS => by subst hS; first | (go_simp; rfl) | go_simp); simp only [lxa, lxb, lxc]
   refine lx_r 6 _ HS0 ?_; simp only [lxa, lxb, lxc]
   refine lx_one 7 (by kernel_rfl) (stepT_call 44 ?ga7 rfl rfl rfl ?gr7 ?_)
   case gr7 => first | (go_simp; rfl) | go_simp
   refine (hU _ hRX).mono ?_
   rintro e w4 ⟨rfl, hw4⟩
   replace hw4 := hw4.symm
   subst hw4
   refine ⟨_, rfl, fun _ => rfl, ?_⟩
   simp only [lxa, lxb, lxc]
   refine lx_r 8 (.int .i64 ((k.room : Int) - used k.fs)) HS0 ?_; simp only [lxa, lxb, lxc]
   refine lx_r 9 (.bool false) HS0 ?_; simp only [lxa, lxb, lxc]
   refine lx_nil (by kernel_rfl) ?_
   replace hPw := hPw X hRX
   have hus := hgood.used
   clear HS0 p1 hw1 hlen1 hU HPe
   go_upto_region 7 with (first
    | (go_at_call 56; refine hPw.mono ?_; rintro e w2 ⟨rfl, G2, hR2, hk2, hG2⟩))
   have hk2' : Keep G w1 w2 := (Keep.ofBelow hbX).trans hk2
   have hG2' : ∀ i, G2 i → G i ∨ w1.heap.size ≤ i := fun i hi => (hG2 i hi).imp id (fun h => Nat.le_trans hbX.size h)
   have hA := fun w G k hR => at_any rd G k s w hR
   cases hlk : look k.fs s with
   | none =>
    have HLK : Hid (look k.fs s = none) := hlk
    have hlk1 : look k1.fs s = none := by rw [hpfs]; exact hlk
    have hA1 := hA w2 G2 k1 hR2
    rw [ixL_none hlk1] at hA1
    have hu0 := used_put k.fs hgood.rise s ⟨[], 0⟩
    have hgK : ({ k1 with fs := putL k1.fs s ⟨[], 0⟩ } : Dk).Good := good_put hgp hnm (Nat.le_refl _) Bd.nil (by rw [hpfs] ; rw [hlk] at hu0 ; have h1 := hgp.used ; rw [hpfs] at h1 ; have h2 : lenO none = 0 := rfl ; rw [h2] at hu0 ; have h3 : ([] : List Int).length = 0 := rfl ; rw [h3] at hu0 ; omega)
    have hPt := refPut_any rd G2 k1 s hlk1 ⟨[], 0⟩ none 0 0 (by rw [hpfs]; omega) w2 hR2 hgK ⟨⟨rfl, Or.inl ⟨rfl, rfl⟩⟩, fun g hg => by cases hg⟩
    obtain ⟨K2, hK2⟩ : ∃ K2 : Dk, K2 = { k1 with fs := putL k1.fs s ⟨[], 0⟩ } := ⟨_, rfl⟩
    rw [← hK2] at hPt
    have hrise1 : Rise k1.fs := by rw [hpfs]; exact hgood.rise
    have hlk2 : look K2.fs s = some ⟨[], 0⟩ := by rw [hK2]; show look (putL k1.fs s ⟨[], 0⟩) s = _; rw [look_put _ hrise1, if_pos rfl]
    obtain ⟨j, hj, hix0, hjl⟩ := ixL_some hlk2 0
    rw [Nat.zero_add] at hj
    have hup := used_put k.fs hgood.rise s ⟨[] ++ ys, 0⟩
    rw [hlk] at hup
    have hfin : ({ K2 with fs := putL K2.fs s ⟨(⟨[], 0⟩ : Fle).b ++ ys, (⟨[], 0⟩ : Fle).safe⟩ } : Dk) = { k1 with fs := putL k.fs s ⟨((none : Option Fle).map Fle.b).getD [] ++ ys, ((none : Option Fle).map Fle.safe).getD 0⟩ } := by
     rw [hK2]
     dsimp only
     rw [put_put _ hrise1, hpfs]
     rfl
    have hgN : ({ K2 with fs := putL K2.fs s ⟨(⟨[], 0⟩ : Fle).b ++ ys, (⟨[], 0⟩ : Fle).safe⟩ } : Dk).Good := by
     rw [hfin]
     have h := good_put (f := ⟨[] ++ ys, 0⟩) hgp hnm (Nat.zero_le _) hY.bytes (by
      rw [hpfs]
      have h2 : lenO none = 0 := rfl
      have h3 : (⟨[] ++ ys, 0⟩ : Fle).b.length = n := hY.len
      have h4 := hproom
      rw [h2, h3] at hup
      omega)
     rw [hpfs] at h
     exact h
    have hbd : Bd (⟨[], 0⟩ : Fle).b := Bd.nil
    have hfle : (⟨[], 0⟩ : Fle).b.length ≤ 16777216 := Nat.zero_le _
    obtain ⟨f, hfe⟩ : ∃ f : Fle, (⟨[], 0⟩ : Fle) = f := ⟨_, rfl⟩
    rw [hfe] at hfin hgN hbd hfle hix0
    have hix : Hid (K2.fs[j]? = some (s, f)) := hix0
    obtain ⟨N, HN⟩ : ∃ N, Hid (K2.fs.length = N) := ⟨_, rfl⟩
    rw [HN.out] at hjl
    have hA2 := fun w G hR => hA w G K2 hR
    rw [hj] at hA2
    clear hlk hlk1 hlk2 hix0 hj hup hu0 hA hgK hfe hK2
    go_upto_region 8 with (first
     | (go_at_call 57; refine hA1.mono ?_; rintro e w3 ⟨rfl, hw3⟩; replace hw3 := hw3.symm; subst hw3))
    go_upto_region 9 with (first
     | (go_at_call 58; refine hPt.mono ?_; rintro e V ⟨rfl, GV, hRV, hkV0, hGV0⟩))
    replace hA2 := hA2 V GV hRV
    have hkV : Keep G w1 V := hk2'.andThen hkV0 (fun i hi h => (hG2' i h).elim id (fun h => absurd h (by omega)))
    have hGV : ∀ i, GV i → G i ∨ w1.heap.size ≤ i := fun i hi => (hGV0 i hi).elim (hG2' i) (fun h => Or.inr (Nat.le_trans hk2'.size h))
    have hYV := hYk G V hkV (fun i h => Or.inl h)
    clear hA1 hPt hR2 hk2 hG2 hkV0 hGV0 hRX
    go_upto_region 10 with (first
     | (go_at_call 57; refine hA2.mono ?_; rintro e w3 ⟨rfl, hw3⟩; replace hw3 := hw3.symm; subst hw3))
    have hjN0 : (0 : Int) ≤ (j : Int) := by omega
    have hjN : (j : Int) < (N : Int) := by omega
    refine wp_region_lx (fun w' => Below V.drew.heap.size V.drew w') [19] 20 (by kernel_rfl) (by kernel_rfl) ?_
    have hVX : Below V.heap.size V V.drew := (Below.refl _ _).drew
    have hRX := hRV.below hVX
    have hYX := hYV.carry (Nat.le_refl _) hVX
    obtain ⟨g0, cap0, q0, hcap0, hcB0⟩ : ∃ g cap, V.drew.cell? ⟨rd, 0, none⟩ = some (.slice (some ⟨g, 0, none⟩) N cap) ∧ N ≤ cap ∧ ∃ aj cj, V.drew.cell? ⟨g, j * 3 + 1, none⟩ = some (.slice aj f.b.length cj) ∧ Rd V.drew aj f.b.length cj f.b := by
     obtain ⟨⟨v, sl, hblk, hrow, hvG, hlies, _⟩, _, _, _⟩ := hRX
     obtain ⟨g, cap, e, hcap, _, hcs⟩ := row3 hrow (by rw [HN.out]; omega)
     subst e
     refine ⟨g, cap, by rw [cell_of_block hblk, ← HN.out]; rfl, by rw [← HN.out]; exact hcap, ?_⟩
     have hl := (hlies (s, f) (List.mem_of_getElem? hix.out)).1
     obtain ⟨aj, cj, ev, _⟩ := Rd.ofRowE hl
     have hc := (hcs j (s, f) hix.out).2.1
     rw [ev] at hc hl
     exact ⟨aj, cj, hc, Rd.ofRow hl hbd⟩
    obtain ⟨aj, cj, q1, hRj⟩ := hcB0
    obtain ⟨ln, HLn⟩ : ∃ ln, Hid (f.b.length = ln) := ⟨_, rfl⟩
    rw [HLn.out] at q1 hRj hfle
    have hcF : ∀ w', Below V.drew.heap.size V.drew w' → w'.cell? ⟨rd, 0, none⟩ = some (.slice (some ⟨g0, 0, none⟩) N cap0) := fun w' hb => (hb.cell (p := ⟨rd, 0, none⟩) (World.block_lt_of_cell? V _ q0)).trans q0
    have hcB : ∀ w', Below V.drew.heap.size V.drew w' → w'.cell? ⟨g0, j * 3 + 1, none⟩ = some (.slice aj ln cj) := fun w' hb => (hb.cell (p := ⟨g0, j * 3 + 1, none⟩) (World.block_lt_of_cell? V _ q1)).trans q1
    clear q0 q1 hRV hYV
    generalize V.drew = X at *
    have HSX : Below X.heap.size X X := Below.refl _ _
    refine lx_r 0 _ HSX ?_; simp only [lxa, lxb, lxc]
    refine lx_r 1 _ HSX ?_; simp only [lxa, lxb, lxc]
    refine lx_r 2 _ HSX ?_; simp only [lxa, lxb, lxc]
    refine lx_r 3 (.slice (some ⟨g0, 0, none⟩) N cap0) HSX ?_ (hv := fun w' hS => by have q := hcF _ hS; first | (go_simp; rfl) | go_simp); simp only [lxa, lxb, lxc]
    refine lx_r 4 _ HSX ?_; simp only [lxa, lxb, lxc]
    refine lx_r 6 _ HSX ?_; simp only [lxa, lxb, lxc]
    refine lx_r 7 _ HSX ?_; simp only [lxa, lxb, lxc]
    refine lx_r 8 _ HSX ?_; simp only [lxa, lxb, lxc]
    refine lx_r 9 (.slice (some ⟨g0, 0, none⟩) N cap0) HSX ?_ (hv := fun w' hS => by have q := hcF _ hS; first | (go_simp; rfl) | go_simp); simp only [lxa, lxb, lxc]
    refine lx_r 10 _ HSX ?_; simp only [lxa, lxb, lxc]
    refine lx_r 11 (.pointer (some ⟨g0, j * 3, none⟩)) HSX ?_; simp only [lxa, lxb, lxc]
    refine lx_r 12 (.pointer (some ⟨g0, j * 3 + 1, none⟩)) HSX ?_; simp only [lxa, lxb, lxc]
    refine lx_r 13 (.slice aj ln cj) HSX ?_ (hv := fun w' hS => by have q := hcB _ hS; first | (go_simp; rfl) | go_simp); simp only [lxa, lxb, lxc]
    refine lx_r 15 _ HSX ?_; simp only [lxa, lxb, lxc]
    have hX0 : Below X.heap.size X (X.alloc (.cells #[] 5)) := (Below.refl _ _).alloc (Nat.le_refl _) _
    have hemp : (X.alloc (.cells #[] 5)).ownsRow X.heap.size 5 1 (.slice (some ⟨X.heap.size, 0, none⟩) 0 0) 0 (bc []) := World.ownsRow_made X #[] 0 (Nat.le_refl _) (by unfold maxLen; omega) rfl
    refine lx_one 5 (by kernel_rfl) (stepT_val (w' := X.alloc (.cells #[] 5)) (.slice (some ⟨X.heap.size, 0, none⟩) 0 0) rfl rfl rfl ?r5n (fun _ => hX0) ?_)
    case r5n => first | (go_simp; rfl) | go_simp
    simp only [lxa, lxb, lxc]
    obtain ⟨v5, w5, hrun5, o5, hb5⟩ := run_appJ 29 hemp (hRj.carry (Nat.le_refl _) hX0) (by omega) hX0.size
    have hb5' := hX0.trans hb5
    refine lx_one 14 (by kernel_rfl) (stepT_val (w' := w5) v5 rfl rfl rfl (exec_appJ rfl rfl rfl hrun5) (fun _ => hb5') ?_)
    simp only [lxa, lxb, lxc]
    rw [Nat.zero_add, List.nil_append] at o5
    obtain ⟨v6, w6, hrun6, o6, hb6⟩ := run_appJ 29 o5 (hYX.carry (Nat.le_refl _) hb5') (by omega) hb5'.size
    have hb6' := hb5'.trans hb6
    refine lx_one 16 (by kernel_rfl) (stepT_val (w' := w6) v6 rfl rfl rfl (exec_appJ rfl rfl rfl hrun6) (fun _ => hb6') ?_)
    simp only [lxa, lxb, lxc]
    obtain ⟨a6, c6, rfl, hn6⟩ := Rd.ofRowE o6
    have hbl : (f.b ++ ys).length = ln + n := by rw [List.length_append, HLn.out, hY.len]
    have o6' : w6.ownsRow X.heap.size 5 1 (.slice a6 (ln + n) c6) (f.b ++ ys).length (bc (f.b ++ ys)) := by rw [hbl]; exact o6
    obtain ⟨g, cap, r0, hcap, ⟨u, r1⟩, r2, hRp⟩ := hRX.setB hb6' hix.out o6' hgN
    have hgg : g = g0 := by have h := hcF _ hb6'; rw [r0] at h; injection h with h; injection h with h _ _; injection h with h; injection h
    subst hgg
    refine lx_one 17 (by kernel_rfl) (stepT_val (w' := w6) (.pointer (some ⟨g, j * 3, none⟩)) rfl rfl rfl ?r17n (fun _ => hb6') ?_)
    case r17n => first | (go_simp; rfl) | go_simp
    simp only [lxa, lxb, lxc]
    refine lx_one 18 (by kernel_rfl) (stepT_val (w' := w6) (.pointer (some ⟨g, j * 3 + 1, none⟩)) rfl rfl rfl ?r18n (fun _ => hb6') ?_)
    case r18n => first | (go_simp; rfl) | go_simp
    simp only [lxa, lxb, lxc]
    refine lx_one 19 (by kernel_rfl) (stepT_store (w' := w6.setCell ⟨g, j * 3 + 1, none⟩ (.slice a6 (ln + n) c6)) rfl rfl rfl ?r19n (fun h => by cases h) ?_)
    case r19n => first | (go_simp; rfl) | go_simp
    refine lx_nil (by kernel_rfl) ?_
    go_wp2
    go_ret
    refine ⟨rfl, ?_⟩
    rw [hfin] at hRp
    rw [HLK.out]
    exact Rp.next hkV hGV (Rp.next (Keep.ofBelow hVX) (fun i hi => Or.inl hi) hRp)
   | some f =>
    have HLK : Hid (look k.fs s = some f) := hlk
    have hlk1 : look k1.fs s = some f := by rw [hpfs]; exact hlk
    obtain ⟨j, hj, hix0, hjl⟩ := ixL_some hlk1 0
    rw [Nat.zero_add] at hj
    have hA1 := hA w2 G2 k1 hR2
    rw [hj] at hA1
    have hjn : ¬ (j : Int) < 0 := by omega
    obtain ⟨_, hsf, hbd⟩ := look_good hgood hlk
    have hup := used_put k.fs hgood.rise s ⟨f.b ++ ys, f.safe⟩
    rw [hlk] at hup
    have hfin : ({ k1 with fs := putL k1.fs s ⟨f.b ++ ys, f.safe⟩ } : Dk) = { k1 with fs := putL k.fs s ⟨((some f).map Fle.b).getD [] ++ ys, ((some f).map Fle.safe).getD 0⟩ } := by
     rw [hpfs]
     rfl
    have hgN : ({ k1 with fs := putL k1.fs s ⟨f.b ++ ys, f.safe⟩ } : Dk).Good := good_put hgp hnm (by show f.safe ≤ (f.b ++ ys).length; rw [List.length_append]; omega) (hbd.append hY.bytes) (by
     rw [hpfs]
     have h2 : lenO (some f) = f.b.length := rfl
     have h3 : (⟨f.b ++ ys, f.safe⟩ : Fle).b.length = f.b.length + n := by show (f.b ++ ys).length = _; rw [List.length_append, hY.len]
     have h4 := hproom
     rw [h2, h3] at hup
     omega)
    have hfle : f.b.length ≤ 16777216 := Nat.le_trans (used_mem (look_mem hlk)) (Nat.le_trans hgood.used hgood.room)
    have hix : Hid (k1.fs[j]? = some (s, f)) := hix0
    obtain ⟨N, HN⟩ : ∃ N, Hid (k1.fs.length = N) := ⟨_, rfl⟩
    rw [HN.out] at hjl
    have hkV : Keep G w1 w2 := hk2'
    have hGV := hG2'
    have hYV := hYk G w2 hkV (fun i h => Or.inl h)
    have hRV := hR2
    clear hlk hlk1 hix0 hj hup hA hR2 hk2 hG2 hRX
    have tk1 : True := trivial
    have hA2 := hA1
    go_upto_region 10 with (first
     | (go_at_call 57; clear tk1; refine hA1.mono ?_; clear hA1; rintro e w3 ⟨rfl, hw3⟩; replace hw3 := hw3.symm; subst hw3)
     | (go_at_call 57; refine hA2.mono ?_; rintro e w3 ⟨rfl, hw3⟩; replace hw3 := hw3.symm; subst hw3))
    have hjN0 : (0 : Int) ≤ (j : Int) := by omega
    have hjN : (j : Int) < (N : Int) := by omega
    refine wp_region_lx (fun w' => Below w2.drew.heap.size w2.drew w') [19] 20 (by kernel_rfl) (by kernel_rfl) ?_
    have hVX : Below w2.heap.size w2 w2.drew := (Below.refl _ _).drew
    have hRX := hRV.below hVX
    have hYX := hYV.carry (Nat.le_refl _) hVX
    obtain ⟨g0, cap0, q0, hcap0, hcB0⟩ : ∃ g cap, w2.drew.cell? ⟨rd, 0, none⟩ = some (.slice (some ⟨g, 0, none⟩) N cap) ∧ N ≤ cap ∧ ∃ aj cj, w2.drew.cell? ⟨g, j * 3 + 1, none⟩ = some (.slice aj f.b.length cj) ∧ Rd w2.drew aj f.b.length cj f.b := by
     obtain ⟨⟨v, sl, hblk, hrow, hvG, hlies, _⟩, _, _, _⟩ := hRX
     obtain ⟨g, cap, e, hcap, _, hcs⟩ := row3 hrow (by rw [HN.out]; omega)
     subst e
     refine ⟨g, cap, by rw [cell_of_block hblk, ← HN.out]; rfl, by rw [← HN.out]; exact hcap, ?_⟩
     have hl := (hlies (s, f) (List.mem_of_getElem? hix.out)).1
     obtain ⟨aj, cj, ev, _⟩ := Rd.ofRowE hl
     have hc := (hcs j (s, f) hix.out).2.1
     rw [ev] at hc hl
     exact ⟨aj, cj, hc, Rd.ofRow hl hbd⟩
    obtain ⟨aj, cj, q1, hRj⟩ := hcB0
    obtain ⟨ln, HLn⟩ : ∃ ln, Hid (f.b.length = ln) := ⟨_, rfl⟩
    rw [HLn.out] at q1 hRj hfle
    have hcF : ∀ w', Below w2.drew.heap.size w2.drew w' → w'.cell? ⟨rd, 0, none⟩ = some (.slice (some ⟨g0, 0, none⟩) N cap0) := fun w' hb => (hb.cell (p := ⟨rd, 0, none⟩) (World.block_lt_of_cell? w2 _ q0)).trans q0
    have hcB : ∀ w', Below w2.drew.heap.size w2.drew w' → w'.cell? ⟨g0, j * 3 + 1, none⟩ = some (.slice aj ln cj) := fun w' hb => (hb.cell (p := ⟨g0, j * 3 + 1, none⟩) (World.block_lt_of_cell? w2 _ q1)).trans q1
    clear q0 q1 hRV hYV
    generalize w2.drew = X at *
    have HSX : Below X.heap.size X X := Below.refl _ _
    refine lx_r 0 _ HSX ?_; simp only [lxa, lxb, lxc]
    refine lx_r 1 _ HSX ?_; simp only [lxa, lxb, lxc]
    refine lx_r 2 _ HSX ?_; simp only [lxa, lxb, lxc]
    refine lx_r 3 (.slice (some ⟨g0, 0, none⟩) N cap0) HSX ?_ (hv := fun w' hS => by have q := hcF _ hS; first | (go_simp; rfl) | go_simp); simp only [lxa, lxb, lxc]
    refine lx_r 4 _ HSX ?_; simp only [lxa, lxb, lxc]
    refine lx_r 6 _ HSX ?_; simp only [lxa, lxb, lxc]
    refine lx_r 7 _ HSX ?_; simp only [lxa, lxb, lxc]
    refine lx_r 8 _ HSX ?_; simp only [lxa, lxb, lxc]
    refine lx_r 9 (.slice (some ⟨g0, 0, none⟩) N cap0) HSX ?_ (hv := fun w' hS => by have q := hcF _ hS; first | (go_simp; rfl) | go_simp); simp only [lxa, lxb, lxc]
    refine lx_r 10 _ HSX ?_; simp only [lxa, lxb, lxc]
    refine lx_r 11 (.pointer (some ⟨g0, j * 3, none⟩)) HSX ?_; simp only [lxa, lxb, lxc]
    refine lx_r 12 (.pointer (some ⟨g0, j * 3 + 1, none⟩)) HSX ?_; simp only [lxa, lxb, lxc]
    refine lx_r 13 (.slice aj ln cj) HSX ?_ (hv := fun w' hS => by have q := hcB _ hS; first | (go_simp; rfl) | go_simp); simp only [lxa, lxb, lxc]
    refine lx_r 15 _ HSX ?_; simp only [lxa, lxb, lxc]
    have hX0 : Below X.heap.size X (X.alloc (.cells #[] 5)) := (Below.refl _ _).alloc (Nat.le_refl _) _
    have hemp : (X.alloc (.cells #[] 5)).ownsRow X.heap.size 5 1 (.slice (some ⟨X.heap.size, 0, none⟩) 0 0) 0 (bc []) := World.ownsRow_made X #[] 0 (Nat.le_refl _) (by unfold maxLen; omega) rfl
    refine lx_one 5 (by kernel_rfl) (stepT_val (w' := X.alloc (.cells #[] 5)) (.slice (some ⟨X.heap.size, 0, none⟩) 0 0) rfl rfl rfl ?r5m (fun _ => hX0) ?_)
    case r5m => first | (go_simp; rfl) | go_simp
    simp only [lxa, lxb, lxc]
    obtain ⟨v5, w5, hrun5, o5, hb5⟩ := run_appJ 29 hemp (hRj.carry (Nat.le_refl _) hX0) (by omega) hX0.size
    have hb5' := hX0.trans hb5
    refine lx_one 14 (by kernel_rfl) (stepT_val (w' := w5) v5 rfl rfl rfl (exec_appJ rfl rfl rfl hrun5) (fun _ => hb5') ?_)
    simp only [lxa, lxb, lxc]
    rw [Nat.zero_add, List.nil_append] at o5
    obtain ⟨v6, w6, hrun6, o6, hb6⟩ := run_appJ 29 o5 (hYX.carry (Nat.le_refl _) hb5') (by omega) hb5'.size
    have hb6' := hb5'.trans hb6
    refine lx_one 16 (by kernel_rfl) (stepT_val (w' := w6) v6 rfl rfl rfl (exec_appJ rfl rfl rfl hrun6) (fun _ => hb6') ?_)
    simp only [lxa, lxb, lxc]
    obtain ⟨a6, c6, rfl, hn6⟩ := Rd.ofRowE o6
    have hbl : (f.b ++ ys).length = ln + n := by rw [List.length_append, HLn.out, hY.len]
    have o6' : w6.ownsRow X.heap.size 5 1 (.slice a6 (ln + n) c6) (f.b ++ ys).length (bc (f.b ++ ys)) := by rw [hbl]; exact o6
    obtain ⟨g, cap, r0, hcap, ⟨u, r1⟩, r2, hRp⟩ := hRX.setB hb6' hix.out o6' hgN
    have hgg : g = g0 := by have h := hcF _ hb6'; rw [r0] at h; injection h with h; injection h with h _ _; injection h with h; injection h
    subst hgg
    refine lx_one 17 (by kernel_rfl) (stepT_val (w' := w6) (.pointer (some ⟨g, j * 3, none⟩)) rfl rfl rfl ?r17m (fun _ => hb6') ?_)
    case r17m => first | (go_simp; rfl) | go_simp
    simp only [lxa, lxb, lxc]
    refine lx_one 18 (by kernel_rfl) (stepT_val (w' := w6) (.pointer (some ⟨g, j * 3 + 1, none⟩)) rfl rfl rfl ?r18m (fun _ => hb6') ?_)
    case r18m => first | (go_simp; rfl) | go_simp
    simp only [lxa, lxb, lxc]
    refine lx_one 19 (by kernel_rfl) (stepT_store (w' := w6.setCell ⟨g, j * 3 + 1, none⟩ (.slice a6 (ln + n) c6)) rfl rfl rfl ?r19m (fun h => by cases h) ?_)
    case r19m => first | (go_simp; rfl) | go_simp
    refine lx_nil (by kernel_rfl) ?_
    go_wp2
    go_ret
    refine ⟨rfl, ?_⟩
    rw [hfin] at hRp
    rw [HLK.out]
    exact Rp.next hkV hGV (Rp.next (Keep.ofBelow hVX) (fun i hi => Or.inl hi) hRp)
  ·have e : appK k s ys = (8, k) := by
    unfold appK
    rw [on, hnm, hY.len]
    simp [hfit]
   rw [e]
   have hgt : decide ((k.room : Int) - (used k.fs : Int) < (n : Int)) = true := by simp; omega
   go_enter Tryz.func18, Tryz.ntmps18
   go_upto_region 4 with (first
    | (go_at_call 55; refine hF.mono ?_; rintro e w1 ⟨rfl, rfl⟩))
   refine wp_region_lx (fun w' => w' = w1.drew) [] 10 (by kernel_rfl) (by kernel_rfl) ?_
   have hRX := hR.below ((Below.refl _ _).drew)
   have p1 : w1.drew.cell? ⟨rd, 1, none⟩ = some (.int .i64 (k.room : Int)) := hq1
   have hbX : Below w1.heap.size w1 w1.drew := (Below.refl _ _).drew
   clear hq1 hF hfit
   generalize w1.drew = X at *
   have HS0 : X = X := rfl
   refine lx_r 0 _ HS0 ?_; simp only [lxa, lxb, lxc]
   refine lx_r 1 (.int .i64 n) HS0 ?_ (hv := fun w' hS => by subst hS; first | (go_simp; rfl) | go_simp); simp only [lxa, lxb, lxc]
   refine lx_r 2 _ HS0 ?_; simp only [lxa, lxb, lxc]
   refine lx_r 3 _ HS0 ?_; simp only [lxa, lxb, lxc]
   refine lx_r 4 _ HS0 ?_; simp only [lxa, lxb, lxc]
   refine lx_r 5 (.int .i64 k.room) HS0 ?_ (hv := fun w' hS => by subst hS; first | (go_simp; rfl) | go_simp); simp only [lxa, lxb, lxc]
   refine lx_r 6 _ HS0 ?_; simp only [lxa, lxb, lxc]
   refine lx_one 7 (by kernel_rfl) (stepT_call 44 ?a7 rfl rfl rfl ?r7 ?_)
   case r7 => first | (go_simp; rfl) | go_simp
   refine (hU _ hRX).mono ?_
   rintro e w4 ⟨rfl, hw4⟩
   replace hw4 := hw4.symm
   subst hw4
   refine ⟨_, rfl, fun _ => rfl, ?_⟩
   simp only [lxa, lxb, lxc]
   refine lx_r 8 (.int .i64 ((k.room : Int) - used k.fs)) HS0 ?_; simp only [lxa, lxb, lxc]
   refine lx_r 9 (.bool true) HS0 ?_; simp only [lxa, lxb, lxc]
   refine lx_nil (by kernel_rfl) ?_
   go_wp2
   go_ret
   exact ⟨rfl, Rp.ofBelow hR hbX⟩
 ·have e : appK k s ys = (firstK k s false, k) := by
   unfold appK firstK at *
   cases h1 : k.off <;> cases h2 : isNm s <;> simp_all
  rw [e]
  obtain ⟨en, hen⟩ : ∃ en, firstK k s false = en := ⟨_, rfl⟩
  rw [hen] at hF h0 ⊢
  have hne : ((en : Int) != 0) = true := by simp; omega
  clear hen e
  go_enter Tryz.func18, Tryz.ntmps18
  go_wp2_with (first
   | (go_at_call 55; refine hF.mono ?_; rintro e w1 ⟨rfl, rfl⟩))
  go_ret
  exact ⟨rfl, Rp.refl hR⟩
end Go.Proofs.YtikkieaokfailaaGreatDoor

namespace Go.Proofs.YtikkieaokfailaaGreatDoor
open Go.RowKit Go.Joins
theorem exec_appS {w w' : World} {o : Oper} {ρ : Operand → Value} {s x : Operand} {v u v' : Value} (ho : o.op = .call { callee := .builtin .append, args := #[s, x], argTypes := #[81, 81] }) (hs : ρ s = v) (hx : ρ x = u)
  (hrun : (Builtin.append_ #[81, 81] o.type #[v, u]).run Tryz.prog w = .ok v' w') : (execOp ρ o).run Tryz.prog w = .ok (.value v') w' := by
 simp only [execOp, ho, resolve, invoke, builtin, Sem.run_bind, Sem.run_pure, Result.andThen_ok, List.map_toArray, List.map_cons, List.map_nil, hs, hx, hrun]
theorem run_appS {w : World} (ty : TypeId) {base : Nat} {v : Value} {n : Nat} {xs : List Value} (hown : w.ownsRow base 9 1 v n xs) (y : Nm) (hn : n ≤ 1000000) (hbase : base ≤ w.heap.size) :
  ∃ v' w', (Builtin.append_ #[81, 81] ty #[v, .slice (some ⟨w.heap.size, 0, none⟩) 1 1]).run Tryz.prog (w.alloc (.cells #[.string y] 9)) = .ok v' w' ∧ w'.ownsRow base 9 1 v' (n + 1) (xs ++ [.string y]) ∧ Keep (fun k => v.ownBlock = some k) w w' := by
 obtain ⟨i0, hi, hz0, hz1, hz2⟩ := info_parts infoStr
 have hk0 : Keep (fun k => v.ownBlock = some k) w (w.alloc (.cells #[.string y] 9)) := (Keep.refl _ _).alloc _
 have hown1 := own_keep (S := fun _ => False) hown ((Keep.refl (fun _ => False) w).alloc (.cells #[.string y] 9)) (fun _ _ h => h)
 obtain ⟨v', w', hrun, h2, h3, _⟩ := run_append_own (P := Tryz.prog) (w.alloc (.cells #[.string y] 9)) base 81 ty 9 i0 (.string ByteArray.empty) 1 16 Tryz.underlying81 hi hz0 hz1 hz2 rfl (by decide) v n xs hown1 ⟨w.heap.size, 0, none⟩ 1 1 [.string y] (by simp) (fun j u hu => by
  rw [add_flat, Nat.zero_add, cell_of_block (alloc_at w (.cells #[.string y] 9))]
  simpa using hu) (by simp [Value.oneCell']) (by unfold maxLen; omega) (by omega) (by simp; omega)
 exact ⟨v', w', hrun, h2, hk0.trans (Keep.ofGrown h3)⟩
set_option maxRecDepth 100000 in
set_option maxHeartbeats 4000000 in
theorem list_go (bd br d : Nat) (F : Nat → Prop) (k : Dk) (hN9 : k.fs.length ≤ 1000000) (W : World) (hDk : DiskAt W F d k) (hd : W.heap[bd]? = some (.cells #[.pointer (some ⟨d, 0, none⟩)] 36 (0, 0))) (hr : W.heap[br]? = some (.cells #[.slice none 0 0] 81 (0, 0))) :
  Calls Tryz.prog 86 #[.pointer (some ⟨bd, 0, none⟩), .pointer (some ⟨br, 0, none⟩)] W fun e w' =>
   e = .returned (.tuple #[]) ∧ ∃ v, w'.heap[br]? = some (.cells #[v] 81 (0, 0)) ∧ w'.ownsRow W.heap.size 9 1 v k.fs.length (nv (k.fs.map Prod.fst)) ∧ Keep (fun i => i = br) W w' := by
 have q1 := box_cell hd
 have hgood := hDk.good
 have hrise : Calls Tryz.prog 69 #[.pointer (some ⟨d, 0, none⟩)] W fun e w' => ∃ v, e = .returned v ∧ w'.ownsRow W.heap.size 9 1 v k.fs.length (nv (k.fs.map Prod.fst)) ∧ Below W.heap.size W w' := by
  obtain ⟨⟨bm, m, hD, hbm, ht, ha⟩, fd, lt, hg⟩ := hDk
  exact rising_any d bm _ _ m k.fs hg.rise (fun s => (ht s).isSome) hN9 W hD
 obtain ⟨N, HN⟩ : ∃ N, Hid (k.fs.length = N) := ⟨_, rfl⟩
 rw [HN.out] at hrise hN9 ⊢
 have hrl := (Array.getElem?_eq_some_iff.1 hr).1
 clear hd hDk
 go_enter Tryz.func86, Tryz.ntmps86
 go_wp2_with (first
  | (go_at_call 69; refine hrise.mono ?_; rintro e w1 ⟨vn, rfl, hrow, hb1⟩; obtain ⟨an, cn, rfl, hobn⟩ := own_formS hrow))
 have hr1 := box_below hr hb1
 obtain ⟨An, hAn⟩ : ∃ A : Option Addr, (an.map fun g => (⟨g, 0, none⟩ : Addr)) = A := ⟨_, rfl⟩
 have HRw : Hid (w1.ownsRow W.heap.size 9 1 (.slice (an.map fun g => ⟨g, 0, none⟩) N cn) N (nv (k.fs.map Prod.fst))) := hrow
 have hsz1 := hb1.size
 rw [hAn]
 clear hrise hrow
 go_loopw [3, 7] (fun _ s7 wr => ∃ (i : Nat) (v : Value), i ≤ N ∧ s7 = .int .i64 i ∧ Hid (wr.heap[br]? = some (.cells #[v] 81 (0, 0))) ∧ Hid (wr.ownsRow w1.heap.size 9 1 v i (nv ((k.fs.take i).map Prod.fst))) ∧ Hid (Keep (fun j => j = br) w1 wr)) (fun _ s7 _ => N - (intOf s7).toNat)
 case atStart => exact ⟨0, _, by omega, rfl, hr1, ⟨rfl, Or.inl ⟨rfl, rfl⟩⟩, Keep.refl _ _⟩
 case round =>
  obtain ⟨i, v, hi, rfl, HC, HO, HK⟩ := hrel
  clear hr1
  by_cases hil : i < N
  ·have hcl : (i : Int) < (N : Int) := by omega
   have hik : i < k.fs.length := by rw [HN.out]; exact hil
   obtain ⟨x, hx⟩ : ∃ x, k.fs[i]? = some x := ⟨_, List.getElem?_eq_getElem hik⟩
   have hx64 := isNm_size (hgood.each x (List.mem_of_getElem? hx)).1
   obtain ⟨gn, hgn, hnc⟩ : ∃ gn, an = some gn ∧ wr.cell? ⟨gn, i, none⟩ = some (.string x.1) := by
    cases an with
    | none =>
     rcases HRw.out.2 with ⟨_, h0⟩ | ⟨g, cap, cur, h1, _⟩
     ·omega
     ·cases h1
    | some gn =>
     refine ⟨gn, rfl, ?_⟩
     have hix : (nv (k.fs.map Prod.fst))[i]? = some (.string x.1) := by
      unfold nv
      rw [List.getElem?_map, List.getElem?_map, hx]
      rfl
     have hc := HRw.out.cells (g := gn) rfl i _ hix
     rw [add_flat, Nat.zero_add] at hc
     have hb := (HRw.out.lt gn rfl).1
     exact HK.out.cell hc (fun h => by have : gn = br := h; omega)
   have e1 : An = some ⟨gn, 0, none⟩ := by rw [← hAn, hgn]; rfl
   subst e1
   have HT : Hid (nv ((k.fs.take (i + 1)).map Prod.fst) = nv ((k.fs.take i).map Prod.fst) ++ [.string x.1]) := by
    show _ = _
    rw [List.take_add_one, hx]
    simp [nv]
   obtain ⟨av, cv, hve, _⟩ := own_formN HO.out
   subst hve
   clear hx
   go_upto_region 3 with fail
   refine wp_region_lx (fun w' => w'.heap[br]? = some (.cells #[.slice av i cv] 81 (0, 0))) [5] 6 (by kernel_rfl) (by kernel_rfl) ?_
   have HC0 : wr.drew.heap[br]? = some (.cells #[.slice av i cv] 81 (0, 0)) := HC.out
   have HO0 : wr.drew.ownsRow w1.heap.size 9 1 (.slice av i cv) i (nv ((k.fs.take i).map Prod.fst)) := own_keep (S := fun _ => False) HO.out ((Keep.refl (fun _ => False) wr).drew) (fun _ _ h => h)
   have HK0 : Keep (fun j => j = br) w1 wr.drew := HK.out.drew
   clear HC HO HK hnc
   generalize wr.drew = X at *
   refine lx_r 0 (.slice av i cv) HC0 ?_ (hv := fun w' hS => by have q := box_cell hS; first | (go_simp; rfl) | go_simp); simp only [lxa, lxb, lxc]
   refine lx_r 1 _ HC0 ?_; simp only [lxa, lxb, lxc]
   refine lx_one 2 (by kernel_rfl) (stepT_call 87 ?a2 rfl rfl rfl ?r2 ?_)
   case r2 => first | (go_simp; rfl) | go_simp
   refine (clone_any x.1 X (by omega)).mono ?_
   rintro e w3 ⟨rfl, hb3⟩
   have HC3 := box_below HC0 hb3
   refine ⟨_, rfl, fun _ => HC3, ?_⟩
   simp only [lxa, lxb, lxc]
   have hb4 : Below X.heap.size X (w3.alloc (.cells #[.string x.1] 9)) := hb3.alloc hb3.size _
   refine lx_one 3 (by kernel_rfl) (stepT_val (w' := w3.alloc (.cells #[.string x.1] 9)) (.slice (some ⟨w3.heap.size, 0, none⟩) 1 1) rfl rfl rfl ?r3 (fun _ => (Below.heap_alloc _ _ _ (Array.getElem?_eq_some_iff.1 HC3).1).trans HC3) ?_)
   case r3 => first | (go_simp; rfl) | go_simp
   simp only [lxa, lxb, lxc]
   have HO3 := own_keep (S := fun _ => False) HO0 (Keep.ofBelow hb3) (fun _ _ h => h)
   have HK3 : Keep (fun j => j = br) w1 w3 := HK0.trans (Keep.ofBelow hb3)
   obtain ⟨v5, w5, hrun5, o5, hk5⟩ := run_appS 81 HO3 x.1 (by omega) HK3.size
   have hX1 := HK0.size
   have HC5 := box_keep HC3 hk5 (fun e => by have := (HO3.lt br e).1; omega)
   refine lx_one 4 (by kernel_rfl) (stepT_val (w' := w5) v5 rfl rfl rfl (exec_appS rfl rfl rfl hrun5) (fun _ => HC5) ?_)
   simp only [lxa, lxb, lxc]
   obtain ⟨a5, c5, rfl, _⟩ := own_formN o5
   have q5 := box_cell HC5
   have z5 := unfrozen_of_block HC5 0
   refine lx_one 5 (by kernel_rfl) (stepT_store (w' := w5.setCell ⟨br, 0, none⟩ (.slice a5 (i + 1) c5)) rfl rfl rfl ?r5 (fun h => by cases h) ?_)
   case r5 => first | (go_simp; rfl) | go_simp
   refine lx_nil (by kernel_rfl) ?_
   have HC6 := block_setCell (i := 0) HC5 (.slice a5 (i + 1) c5)
   have hkS : Keep (fun j => j = br) w5 (w5.setCell ⟨br, 0, none⟩ (.slice a5 (i + 1) c5)) := (Keep.refl (fun j => j = br) w5).setCell (p := ⟨br, 0, none⟩) rfl _
   have HO6 := own_keep o5 hkS (fun g hg e => by have := (o5.lt g hg).1; omega)
   have HK6 : Keep (fun j => j = br) w1 (w5.setCell ⟨br, 0, none⟩ (.slice a5 (i + 1) c5)) := (HK3.andThen hk5 (fun j hj e => absurd (HO3.lt j e).1 (by omega))).trans hkS
   clear hk5 o5 HC5 q5 z5 hrun5 HC3 HO3 HK3 HC0 HO0 HK0 hb3 hb4
   generalize w5.setCell ⟨br, 0, none⟩ (.slice a5 (i + 1) c5) = Z at *
   go_wp2
   exact ⟨⟨i + 1, .slice a5 (i + 1) c5, by omega, by go_num, HC6, by show World.ownsRow _ _ _ _ _ _ _; rw [HT.out]; exact HO6, HK6⟩, by simp [intOf]; omega⟩
  ·obtain rfl : i = N := by omega
   have hcl : ¬ (i : Int) < (i : Int) := by omega
   have hO := HO.out
   rw [List.take_of_length_le (by rw [HN.out]; exact Nat.le_refl _)] at hO
   go_wp2
   go_end0
   exact ⟨rfl, v, HC.out, own_weak hO hb1.size, (Keep.ofBelow hb1).trans HK.out⟩
set_option maxHeartbeats 1000000 in
theorem list_any (d : Nat) (F : Nat → Prop) (k : Dk) (hN9 : k.fs.length ≤ 1000000) (w : World) (hDk : DiskAt w F d k) :
  Calls Tryz.prog 37 #[.pointer (some ⟨d, 0, none⟩)] w fun e w' => ∃ v, e = .returned (.tuple #[v, .int .i64 (listK k).1]) ∧ w'.ownsRow w.heap.size 9 1 v (listK k).2.length (nv (listK k).2) ∧ Below w.heap.size w w' := by
 have hmf : ∀ (fn : Fn) (first cap : Array Value) (w : World), (Instr.makeFunc fn first cap).run Tryz.prog w = .ok (.func fn first cap) w := fun _ _ _ _ => rfl
 obtain ⟨W, hW⟩ : ∃ W, (w.alloc (.cells #[.pointer (some ⟨d, 0, none⟩)] 36)).alloc (.cells #[.slice none 0 0] 81) = W := ⟨_, rfl⟩
 have hB : Below w.heap.size w W := by rw [← hW]; exact ((Below.refl _ _).alloc (Nat.le_refl _) _).alloc (by simp) _
 have b0 : W.heap[w.heap.size]? = some (.cells #[.pointer (some ⟨d, 0, none⟩)] 36 (0, 0)) := by rw [← hW]; exact alloc2_at w _ _
 have b2 : W.heap[w.heap.size + 1]? = some (.cells #[.slice none 0 0] 81 (0, 0)) := by rw [← hW]; exact (by simpa using alloc_at (w.alloc (.cells #[.pointer (some ⟨d, 0, none⟩)] 36)) (.cells #[.slice none 0 0] 81))
 have hDW := hDk.below hB
 have hA : Calls Tryz.prog 48 #[.pointer (some ⟨d, 0, none⟩), .func (.func 86) #[] #[.pointer (some ⟨w.heap.size, 0, none⟩), .pointer (some ⟨w.heap.size + 1, 0, none⟩)]] W fun e w' => e = .returned (.int .i64 (listK k).1) ∧ ∃ v, w'.heap[w.heap.size + 1]? = some (.cells #[v] 81 (0, 0)) ∧ w'.ownsRow W.heap.size 9 1 v (listK k).2.length (nv (listK k).2) ∧ Keep (fun i => i = w.heap.size + 1) W w' := by
  have hc4 : W.cell? ⟨d, 4, none⟩ = some (.bool k.off) := by
   obtain ⟨⟨bm, m, h, _⟩, _⟩ := hDW
   exact h.c4
  cases on : k.off with
  | true =>
   have e : listK k = (13, []) := by unfold listK; rw [on]; rfl
   rw [e]
   rw [on] at hc4
   refine (attempt_down d _ _ W hc4).mono ?_
   rintro e w' ⟨rfl, hb⟩
   exact ⟨rfl, _, box_below b2 hb, ⟨rfl, Or.inl ⟨rfl, rfl⟩⟩, Keep.ofBelow hb⟩
  | false =>
   have e : listK k = (0, k.fs.map Prod.fst) := by unfold listK; rw [on]; rfl
   rw [e]
   rw [on] at hc4
   dsimp only
   rw [List.length_map]
   have hb1 : Below W.heap.size W (W.alloc (.cells #[.int .i64 0] 37)) := (Below.refl _ _).alloc (Nat.le_refl _) _
   have hD1 := hDW.below hb1
   have g0 := box_below b0 hb1
   have g2 := box_below b2 hb1
   have ge := alloc_at W (.cells #[.int .i64 0] 37)
   have hWs : w.heap.size + 1 < W.heap.size := (Array.getElem?_eq_some_iff.1 b2).1
   have hVs : (W.alloc (.cells #[.int .i64 0] 37)).heap.size = W.heap.size + 1 := by simp
   refine (attempt_go d _ _ 0 (fun w' => ∃ v, w'.heap[w.heap.size + 1]? = some (.cells #[v] 81 (0, 0)) ∧ w'.ownsRow (W.heap.size + 1) 9 1 v k.fs.length (nv (k.fs.map Prod.fst)) ∧ Keep (fun i => i = w.heap.size + 1) W w') W (enters_of Tryz.func86 (by kernel_rfl) rfl) hc4 ((list_go _ _ d F k hN9 _ hD1 g0 g2).mono ?_)).mono ?_
   ·rintro e w' ⟨rfl, v, hv, ho, hk⟩
    rw [hVs] at ho
    exact ⟨Or.inl ⟨rfl, rfl⟩, ⟨v, hv, ho, (Keep.ofBelow hb1).trans hk⟩, box_keep ge hk (by omega)⟩
   ·rintro e w' ⟨rfl, w1, ⟨v, hv, ho, hk⟩, rfl⟩
    have hk2 : Keep (fun i => i = W.heap.size) w1 (w1.setCell ⟨W.heap.size, 0, none⟩ (.int .i64 ((0 : Nat) : Int))) := (Keep.refl (fun i => i = W.heap.size) w1).setCell (p := ⟨W.heap.size, 0, none⟩) rfl _
    exact ⟨rfl, v, box_keep hv hk2 (by omega), own_weak (own_keep ho hk2 (fun g hg e => by have := (ho.lt g hg).1; omega)) (by omega), hk.setNew (Nat.le_refl _) _⟩
 have c0 := box_cell b0
 have hWs : w.heap.size + 1 < W.heap.size := (Array.getElem?_eq_some_iff.1 b2).1
 clear hDW
 obtain ⟨P, hP⟩ : ∃ P, listK k = P := ⟨_, rfl⟩
 rw [hP] at hA ⊢
 clear hP
 obtain ⟨en, ns⟩ := P
 dsimp only at hA ⊢
 go_enter Tryz.func37, Tryz.ntmps37
 go_upto_region 2 with (first
  | (go_at_call 48; refine hA.mono ?_; rintro e w1 ⟨rfl, v, hv, ho, hk⟩; obtain ⟨A5, cp5, rfl, _⟩ := own_formN ho; have q2 := box_cell hv; have z2 := unfrozen_of_block hv 0))
 clear hW hA c0
 have hv2 := block_setCell (i := 0) hv (.slice A5 ns.length cp5)
 have q3 := cell_of_block hv2 0
 simp at q3
 obtain ⟨ln, hln⟩ : ∃ ln, ns.length = ln := ⟨_, rfl⟩
 have HLN : Hid (ns.length = ln) := hln
 rw [hln] at q2 q3 ho
 clear hv2 hln
 go_wp2
 have hk2 : Keep (fun i => i = w.heap.size + 1) w1 (w1.setCell ⟨w.heap.size + 1, 0, none⟩ (.slice A5 ln cp5)) := (Keep.refl (fun i => i = w.heap.size + 1) w1).setCell (p := ⟨w.heap.size + 1, 0, none⟩) rfl _
 refine bodyPost_ret (v := .tuple #[.slice A5 ln cp5, .int .i64 (en : Int)]) (by simp [results, Tryz.results37, go_sem, q3]) rfl ⟨_, rfl, ?_, ?_⟩
 ·rw [HLN.out]
  exact own_weak (own_keep ho hk2 (fun g hg e => by have := (ho.lt g hg).1; omega)) hB.size
 exact hB.trans ((hk.trans hk2).below hB.size (fun i hi => by omega))
end Go.Proofs.YtikkieaokfailaaGreatDoor

namespace Go.Proofs.YtikkieaokfailaaGreatDoor
open Go.RowKit Go.Joins
theorem bytesOf_inj {xs ys : List Int} (hx : Bd xs) (hy : Bd ys) (h : Lib.bytesOf xs = Lib.bytesOf ys) : xs = ys := by
 induction xs generalizing ys with
 | nil => cases ys with
  | nil => rfl
  | cons y r => cases h
 | cons x r ih => cases ys with
  | nil => cases h
  | cons y s =>
   have h' : UInt8.ofNat x.toNat :: Lib.bytesOf r = UInt8.ofNat y.toNat :: Lib.bytesOf s := h
   obtain ⟨h1, h2⟩ := List.cons.inj h'
   have hx1 := hx x (List.mem_cons_self ..)
   have hy1 := hy y (List.mem_cons_self ..)
   have h3 := congrArg UInt8.toNat h1
   rw [UInt8.toNat_ofNat', UInt8.toNat_ofNat'] at h3
   have h4 : x = y := by omega
   rw [h4, ih (fun z hz => hx z (List.mem_cons_of_mem _ hz)) (fun z hz => hy z (List.mem_cons_of_mem _ hz)) h2]
theorem bytesOf_beq {xs ys : List Int} (hx : Bd xs) (hy : Bd ys) : (Lib.bytesOf xs == Lib.bytesOf ys) = decide (xs = ys) := by
 by_cases h : xs = ys
 ·subst h; simp
 ·rw [decide_eq_false h, beq_eq_false_iff_ne]
  exact fun e => h (bytesOf_inj hx hy e)
theorem bequal_any (a1 : Option Addr) (n1 c1 : Nat) (xs : List Int) (a2 : Option Addr) (n2 c2 : Nat) (ys : List Int) (w : World) (h1 : Rd w a1 n1 c1 xs) (h2 : Rd w a2 n2 c2 ys) :
  Calls Tryz.prog 131 #[.slice a1 n1 c1, .slice a2 n2 c2] w fun e w' => e = .returned (.bool (decide (xs = ys))) ∧ w' = w := by
 rw [← bytesOf_beq h1.bytes h2.bytes]
 exact Any.bytes_Equal { Tryz.laysb115 with } _ _ xs ys w h1.string h2.string
def sBase : Nm := ⟨#[98, 97, 115, 101]⟩
def sNew : Nm := ⟨#[98, 97, 115, 101, 46, 110, 101, 119]⟩
def sLog : Nm := ⟨#[108, 111, 103, 45]⟩
def baseR (r : Nat × List Int) : Nat × Nat :=
 if r.1 = 7 then (0, 1) else if r.1 ≠ 0 then (r.1, 0) else if r.2.length ≠ 12 then (14, 0) else
 if 0 < numL (r.2.take 8) ∧ r.2 = baseL (numL (r.2.take 8)) then (0, numL (r.2.take 8)) else (14, 0)
def GsV (p : Nat × Nat) (e : Ending) : Prop := (p.1 = 0 ∧ e = .returned (.int .u64 (p.2 : Int))) ∨ (p.1 ≠ 0 ∧ e = .panicked (gaveS p.1))
theorem gsv_no {n m : Nat} {e : Ending} (h : n ≠ 0) (he : e = .panicked (gaveS n)) : GsV (n, m) e := Or.inr ⟨h, he⟩
theorem gsv14 : GsV (14, 0) (.panicked (gaveS 14)) := gsv_no (fun h => by cases h) rfl
theorem numL_lt8 {xs : List Int} (hb : Bd xs) (h : xs.length ≤ 8) : numL xs < 18446744073709551616 := by
 have h1 := numK_lt hb xs.length
 have h2 : 256 ^ xs.length ≤ 256 ^ 8 := Nat.pow_le_pow_right (by omega) h
 have h3 : (256 : Nat) ^ 8 = 18446744073709551616 := by decide
 unfold numL
 omega
theorem readK_cases' (k : Dk) (s : Nm) : (∃ f, look k.fs s = some f ∧ readK k s = (0, f.b)) ∨ (readK k s).2 = [] := by
 unfold readK
 split
 ·exact Or.inr rfl
 ·split
  ·exact Or.inr rfl
  ·split
   ·exact Or.inr rfl
   ·rename_i f hf; exact Or.inl ⟨f, hf, rfl⟩
theorem nm_neqT {a b : Nm} (h : ¬ a = b) : (a.toList == b.toList) = false := by
 rw [beq_eq_false_iff_ne, ByteArray.toList_eq, ByteArray.toList_eq]
 exact fun e => h (nm_ext e)
theorem nm_eqT (a : Nm) : (a.toList == a.toList) = true := by simp
set_option maxHeartbeats 2000000 in
theorem base_any (w : World) (F : Nat → Prop) (lb d most : Nat) (v : Value) (c : Ch) (dn : Bool) (k : Dk) (h : LD w F lb d most v c dn k) :
  Calls Tryz.prog 98 #[.pointer (some ⟨lb, 0, none⟩)] w fun e w' => GsV (baseR (readK k sBase)) e ∧ Below w.heap.size w w' := by
 have q0 := h.c0
 have hrd := read_any d F k sBase w h.D
 have hbd : Bd (readK k sBase).2 := by
  rcases readK_cases' k sBase with ⟨f, hl, e⟩ | e
  ·rw [e]; dsimp only; exact (look_good h.D.good hl).2.2
  ·rw [e]; exact Bd.nil
 obtain ⟨P, HP⟩ : ∃ P, Hid (readK k sBase = P) := ⟨_, rfl⟩
 rw [HP.out] at hrd hbd ⊢
 obtain ⟨en, xs⟩ := P
 dsimp only at hrd hbd
 have hrd2 : Calls Tryz.prog 38 #[.pointer (some ⟨d, 0, none⟩), .string ⟨#[98, 97, 115, 101]⟩] w fun e w' => ∃ a c', e = .returned (.tuple #[.slice a xs.length c', .int .i64 (en : Int)]) ∧ Rd w' a xs.length c' xs ∧ Below w.heap.size w w' := by
  refine hrd.mono ?_
  rintro e w' ⟨v, rfl, o, hb⟩
  obtain ⟨a, c', rfl, r⟩ := Rd.ofOwn o hbd
  exact ⟨a, c', rfl, r, hb⟩
 clear hrd
 unfold baseR
 dsimp only
 by_cases h7 : en = 7
 ·subst h7
  rw [if_pos rfl]
  go_enter Tryz.func98, Tryz.ntmps98
  go_wp2_with (go_at_call 38; refine hrd2.mono ?_; rintro e w1 ⟨a, c', rfl, r, hb⟩)
  go_ret
  exact ⟨Or.inl ⟨rfl, rfl⟩, hb⟩
 ·rw [if_neg h7]
  have e7 : ((en : Int) == 7) = false := by rw [beq_eq_false_iff_ne]; omega
  by_cases h0 : en = 0
  ·subst h0
   rw [if_neg (by simp)]
   obtain ⟨N, HN⟩ : ∃ N, Hid (xs.length = N) := ⟨_, rfl⟩
   rw [HN.out] at hrd2 ⊢
   by_cases h12 : N = 12
   ·subst h12
    rw [if_neg (by simp)]
    have hg8 : numL (xs.take 8) < 18446744073709551616 := numL_lt8 (hbd.take 8) (by rw [List.length_take]; omega)
    have hnum := fun w' a c' (hr : Rd w' a 12 c' xs) => number_any a 8 c' (xs.take 8) w' (hr.take4 (by omega)) (by omega)
    have hXb : Bd (baseL (numL (xs.take 8))) := by unfold baseL; exact (bigL_bd _ _).append (bigL_bd _ _)
    obtain ⟨g, Hg⟩ : ∃ g, Hid (numL (xs.take 8) = g) := ⟨_, rfl⟩
    simp only [Hg.out] at hnum
    rw [Hg.out] at hg8 hXb ⊢
    have hbf := fun w' => baseForm_any g w'
    have hbl := baseL_len g
    by_cases hg0 : 0 < g
    ·have hz1 : (0 : Int) < (g : Int) := by omega
     by_cases hxe : xs = baseL g
     ·rw [if_pos ⟨hg0, hxe⟩]
      have hde : decide (xs = baseL g) = true := decide_eq_true hxe
      clear hxe h7
      go_enter Tryz.func98, Tryz.ntmps98
      go_wp2_with (first
       | (go_at_call 38; refine hrd2.mono ?_; rintro e w1 ⟨a, c', rfl, r, hb⟩; have hcc : (8 : Int) ≤ (c' : Int) := (by have := r.cap; omega))
       | (go_at_call 130; refine (hnum w1 a c' r).mono ?_; rintro e w2 ⟨rfl, h2⟩; replace h2 := h2.symm; subst h2)
       | (go_at_call 114; refine (hbf w1).mono ?_; rintro e w3 ⟨v3, rfl, o3, hb3⟩; obtain ⟨a3, c3, rfl, r3⟩ := Rd.ofOwn o3 hXb)
       | (go_at_call 131; refine (bequal_any a 12 c' xs a3 12 c3 (baseL g) w3 (r.carry (Nat.le_refl _) hb3) r3).mono ?_; rw [hde]; rintro e w4 ⟨rfl, h4⟩; replace h4 := h4.symm; subst h4)
       | (go_at_call 129; refine (sask_ok _ _).mono ?_; rintro e w5 ⟨rfl, h5⟩; replace h5 := h5.symm; subst h5))
      go_ret
      exact ⟨Or.inl ⟨rfl, rfl⟩, hb.trans (hb3.mono hb.size)⟩
     ·rw [if_neg (fun e => hxe e.2)]
      have hde : decide (xs = baseL g) = false := decide_eq_false hxe
      clear hxe h7
      have tk1 : True := trivial
      have tk2 : True := trivial
      go_enter Tryz.func98, Tryz.ntmps98
      go_wp2_with (first
       | (go_at_call 38; refine hrd2.mono ?_; rintro e w1 ⟨a, c', rfl, r, hb⟩; have hcc : (8 : Int) ≤ (c' : Int) := (by have := r.cap; omega))
       | (go_at_call 130; refine (hnum w1 a c' r).mono ?_; rintro e w2 ⟨rfl, h2⟩; replace h2 := h2.symm; subst h2)
       | (go_at_call 114; refine (hbf w1).mono ?_; rintro e w3 ⟨v3, rfl, o3, hb3⟩; obtain ⟨a3, c3, rfl, r3⟩ := Rd.ofOwn o3 hXb)
       | (go_at_call 131; refine (bequal_any a 12 c' xs a3 12 c3 (baseL g) w3 (r.carry (Nat.le_refl _) hb3) r3).mono ?_; rw [hde]; rintro e w4 ⟨rfl, h4⟩; replace h4 := h4.symm; subst h4)
       | (clear tk1; go_at_call 129; refine (sask_ok 0 _).mono ?_; rintro e w5 ⟨rfl, h5⟩; replace h5 := h5.symm; subst h5)
       | (clear tk2; go_at_call 129; refine (sask_ok 14 _).mono ?_; rintro e w5 ⟨rfl, h5⟩; replace h5 := h5.symm; subst h5)
       | (go_at_call 129; refine (sask_no 14 _).mono ?_; rintro e w5 ⟨rfl, h5⟩; replace h5 := h5.symm; subst h5))
      exact ⟨rfl, gsv14, hb.trans (hb3.mono hb.size)⟩
    ·obtain rfl : g = 0 := by omega
     rw [if_neg (fun e => hg0 e.1)]
     clear h7
     have tk1 : True := trivial
     have tk2 : True := trivial
     go_enter Tryz.func98, Tryz.ntmps98
     go_wp2_with (first
      | (go_at_call 38; refine hrd2.mono ?_; rintro e w1 ⟨a, c', rfl, r, hb⟩; have hcc : (8 : Int) ≤ (c' : Int) := (by have := r.cap; omega))
      | (go_at_call 130; refine (hnum w1 a c' r).mono ?_; rintro e w2 ⟨rfl, h2⟩; replace h2 := h2.symm; subst h2)
      | (clear tk1; go_at_call 129; refine (sask_ok 0 _).mono ?_; rintro e w5 ⟨rfl, h5⟩; replace h5 := h5.symm; subst h5)
      | (clear tk2; go_at_call 129; refine (sask_ok 14 _).mono ?_; rintro e w5 ⟨rfl, h5⟩; replace h5 := h5.symm; subst h5)
      | (go_at_call 129; refine (sask_no 14 _).mono ?_; rintro e w5 ⟨rfl, h5⟩; replace h5 := h5.symm; subst h5))
     exact ⟨rfl, gsv14, hb⟩
   ·rw [if_pos h12]
    have e12 : ((N : Int) == 12) = false := by rw [beq_eq_false_iff_ne]; omega
    clear h7
    have tk1 : True := trivial
    go_enter Tryz.func98, Tryz.ntmps98
    go_wp2_with (first
     | (go_at_call 38; refine hrd2.mono ?_; rintro e w1 ⟨a, c', rfl, r, hb⟩)
     | (clear tk1; go_at_call 129; refine (sask_ok 0 _).mono ?_; rintro e w5 ⟨rfl, h5⟩; replace h5 := h5.symm; subst h5)
     | (go_at_call 129; refine (sask_no 14 _).mono ?_; rintro e w5 ⟨rfl, h5⟩; replace h5 := h5.symm; subst h5))
    exact ⟨rfl, gsv14, hb⟩
  ·rw [if_pos h0]
   have e0 : ((en : Int) == 0) = false := by rw [beq_eq_false_iff_ne]; omega
   go_enter Tryz.func98, Tryz.ntmps98
   go_wp2_with (first
    | (go_at_call 38; refine hrd2.mono ?_; rintro e w1 ⟨a, c', rfl, r, hb⟩)
    | (go_at_call 129; refine (sask_no en _).mono ?_; rintro e w5 ⟨rfl, h5⟩; replace h5 := h5.symm; subst h5))
   exact ⟨rfl, gsv_no h0 rfl, hb⟩
def isOf (s : Nm) : Bool := decide (s = sNew) || Lib.hasPrefix s.data.toList sLog.data.toList
theorem sNewL : sNew.toList = [98, 97, 115, 101, 46, 110, 101, 119] := by rw [ByteArray.toList_eq]; rfl
theorem isOf_any (s : Nm) (w : World) : Calls Tryz.prog 133 #[.string s] w fun e w' => e = .returned (.bool (isOf s)) ∧ w' = w := by
 have hp : ∀ w, Calls Tryz.prog 151 #[.string s, .string ⟨#[108, 111, 103, 45]⟩] w fun e w' => e = .returned (.bool (Lib.hasPrefix s.data.toList sLog.data.toList)) ∧ w' = w := fun w => Any.strings_HasPrefix Tryz.lays99 s sLog w
 unfold isOf
 obtain ⟨b, Hb⟩ : ∃ b, Hid (Lib.hasPrefix s.data.toList sLog.data.toList = b) := ⟨_, rfl⟩
 simp only [Hb.out] at hp ⊢
 by_cases h : s = sNew
 ·rw [decide_eq_true h, Bool.true_or]
  rw [h] at hp ⊢
  clear h Hb
  have hq : (sNew.toList == [98, 97, 115, 101, 46, 110, 101, 119]) = true := by rw [← sNewL]; exact nm_eqT _
  go_enter Tryz.func133, Tryz.ntmps133
  go_wp2
  go_ret
  exact ⟨rfl, rfl⟩
 ·rw [decide_eq_false h, Bool.false_or]
  have hq : (s.toList == [98, 97, 115, 101, 46, 110, 101, 119]) = false := by rw [← sNewL]; exact nm_neqT h
  go_enter Tryz.func133, Tryz.ntmps133
  go_wp2_with (go_at_call 151; refine (hp _).mono ?_; rintro e w1 ⟨rfl, h1⟩; replace h1 := h1.symm; subst h1)
  go_ret
  exact ⟨rfl, rfl⟩
end Go.Proofs.YtikkieaokfailaaGreatDoor

namespace Go.Proofs.YtikkieaokfailaaGreatDoor
open Go.RowKit Go.Joins
theorem decDigits_moreL {n : Nat} (h : ¬ n < 10) : Lib.decDigits n = Lib.decDigits (n / 10) ++ [UInt8.ofNat (48 + n % 10)] := by
 rw [Lib.decDigits, dif_neg h]
theorem dec_val : ∀ (k n : Nat), n ≤ k → (Lib.decDigits n).foldl (fun a c => a * 10 + (c.toNat - 48)) 0 = n
 | k, n, h => by
  by_cases h1 : n < 10
  ·rw [Lib.decDigits_one h1]
   simp only [List.foldl_cons, List.foldl_nil, UInt8.toNat_ofNat']
   omega
  ·match k, h with
   | 0, h => omega
   | k + 1, h =>
    rw [decDigits_moreL h1, List.foldl_append, dec_val k (n / 10) (by omega)]
    simp only [List.foldl_cons, List.foldl_nil, UInt8.toNat_ofNat']
    omega
theorem dec_inj {a b : Nat} (h : Lib.decDigits a = Lib.decDigits b) : a = b := by
 have h1 := dec_val a a (Nat.le_refl _)
 rw [h, dec_val b b (Nat.le_refl _)] at h1
 exact h1.symm
theorem segN_inj {g i j : Nat} (h : segN g i = segN g j) : i = j := by
 unfold segN at h
 injection h with h
 have h1 := congrArg Array.toList h
 simp only [List.append_assoc] at h1
 exact dec_inj (by simpa using h1)
theorem segN_size (g i : Nat) (hg : g < 18446744073709551616) (hi : i < 18446744073709551616) : (segN g i).size ≤ 45 := by
 have h1 := dig_len20 g hg
 have h2 := dig_len20 i hi
 show ([108, 111, 103, 45] ++ Lib.decDigits g ++ [45] ++ Lib.decDigits i).toArray.size ≤ 45
 simp
 omega
def segs (g a n : Nat) : List Nm := (List.range n).map fun i => segN g (a + i + 1)
theorem segs_len (g a n : Nat) : (segs g a n).length = n := by simp [segs]
theorem segs_succ (g a n : Nat) : segs g a (n + 1) = segs g a n ++ [segN g (a + n + 1)] := by unfold segs; rw [List.range_succ, List.map_append]; rfl
theorem segs_cons (g a n : Nat) : segs g a (n + 1) = segN g (a + 1) :: segs g (a + 1) n := by
 unfold segs
 rw [List.range_succ_eq_map, List.map_cons, List.map_map]
 congr 1
 apply List.map_congr_left
 intro i _
 show segN g (a + (i + 1) + 1) = segN g (a + 1 + i + 1)
 congr 1
 omega
theorem mem_segs {g a n : Nat} {s : Nm} : s ∈ segs g a n ↔ ∃ i, i < n ∧ s = segN g (a + i + 1) := by
 unfold segs
 simp only [List.mem_map, List.mem_range]
 constructor
 ·rintro ⟨i, h, rfl⟩; exact ⟨i, h, rfl⟩
 ·rintro ⟨i, h, rfl⟩; exact ⟨i, h, rfl⟩
theorem segs_nodup (g a n : Nat) : (segs g a n).Nodup := by
 unfold segs
 refine List.pairwise_map.2 (List.nodup_range.imp ?_)
 intro x y hne e
 have := segN_inj e
 omega
def IsCnt (ns : List Nm) (g i : Nat) : Prop := (∀ s ∈ segs g 0 i, s ∈ ns) ∧ segN g (i + 1) ∉ ns
theorem nodup_le {α : Type} : ∀ (l m : List α), l.Nodup → (∀ s ∈ l, s ∈ m) → l.length ≤ m.length
 | [], _, _, _ => Nat.zero_le _
 | x :: r, m, hn, h => by
  obtain ⟨p, q, rfl⟩ := List.append_of_mem (h x (List.mem_cons_self ..))
  have hn' := List.pairwise_cons.1 hn
  have := nodup_le r (p ++ q) hn'.2 (fun s hs => by
   have h1 := h s (List.mem_cons_of_mem _ hs)
   rcases List.mem_append.1 h1 with h1 | h1
   ·exact List.mem_append_left _ h1
   ·rcases List.mem_cons.1 h1 with h1 | h1
    ·exact absurd h1.symm (hn'.1 s hs)
    ·exact List.mem_append_right _ h1)
  simp at this ⊢
  omega
theorem cnt_le {ns : List Nm} {g i : Nat} (h : ∀ s ∈ segs g 0 i, s ∈ ns) : i ≤ ns.length := by
 have := nodup_le _ _ (segs_nodup g 0 i) h
 rw [segs_len] at this
 exact this
def inN (s : Nm) (l : List Nm) : Bool := l.any fun x => decide (x = s)
theorem inN_iff {s : Nm} {l : List Nm} : inN s l = true ↔ s ∈ l := by
 unfold inN
 simp
theorem inN_no {s : Nm} {l : List Nm} (h : s ∉ l) : inN s l = false := by
 cases e : inN s l with
 | false => rfl
 | true => exact absurd (inN_iff.1 e) h
def SMap (w : World) (b : Nat) (l : List Nm) : Prop := ∃ D : DataW Unit, w.ownsMap Tryz.prog 9 unitElem b l.length D ∧ Maps.size D = l.length ∧ ∀ s, Maps.has D (kl s) = inN s l
theorem SMap.made (w : World) : SMap (w.alloc (.map #[] 0)) w.heap.size [] := ⟨_, World.ownsMap_made w _ _ _, rfl, fun _ => rfl⟩
theorem SMap.lt {w : World} {b : Nat} {l : List Nm} (h : SMap w b l) : b < w.heap.size := by obtain ⟨D, hD, _⟩ := h; exact hD.lt
theorem SMap.keep {S : Nat → Prop} {w w' : World} {b : Nat} {l : List Nm} (h : SMap w b l) (hk : Keep S w w') (hs : ¬ S b) : SMap w' b l := by
 obtain ⟨D, hD, h2⟩ := h
 have hlt := hD.lt
 obtain ⟨es, clock, hb, F, h3, h4⟩ := hD
 exact ⟨D, ⟨es, clock, (hk.block b hlt hs).trans hb, F, h3, h4⟩, h2⟩
theorem SMap.below {w w' : World} {b : Nat} {l : List Nm} (h : SMap w b l) (hb : Below w.heap.size w w') : SMap w' b l := h.keep (S := fun _ => False) (Keep.ofBelow hb) (fun h => h)
theorem SMap.len {w : World} {b : Nat} {l : List Nm} (h : SMap w b l) (ty : TypeId) : (Builtin.len_ #[166] ty #[.map (some b)]).run Tryz.prog w = .ok (.int .i64 (l.length : Int)) w := by
 obtain ⟨D, hD, h2, _⟩ := h
 rw [hD.len Tryz.underlying166 ty, h2]
theorem zeroU (w : World) : (zeroValue 168).run Tryz.prog w = .ok (.agg #[]) w := by kernel_rfl
theorem SMap.look {w : World} {b : Nat} {l : List Nm} (h : SMap w b l) (s : Nm) (hs : s.size ≤ maxLen) : (Instr.lookup 166 (.map (some b)) (.string s) true).run Tryz.prog w = .ok (.tuple #[.agg #[], .bool (inN s l)]) w := by
 obtain ⟨D, hD, _, h2⟩ := h
 obtain ⟨v, ps, hrun, hv⟩ := hD.look_ok keyed Tryz.underlying166 (zeroU w) unitElem_mk (kl_key s hs)
 rw [hrun, h2 s, (unitElem_inv hv).1]
theorem SMap.store {w : World} {b : Nat} {l : List Nm} (h : SMap w b l) (hn : l.length < 1000000) (s : Nm) (hs : s.size ≤ maxLen) (hno : s ∉ l) :
  ∃ w', (Instr.mapUpdate 166 (.map (some b)) (.string s) (.agg #[])).run Tryz.prog w = .ok () w' ∧ SMap w' b (l ++ [s]) ∧ Keep (fun k => k = b) w w' := by
 obtain ⟨D, hD, h1, h2⟩ := h
 obtain ⟨w', hrun, hown, hturn⟩ := hD.store keyed Tryz.underlying166 (by unfold maxLen; omega) (kl_key s hs) unitElem_mk
 refine ⟨w', hrun, ⟨_, by rw [List.length_append]; exact hown, ?_, fun u => ?_⟩, Keep.ofTurned hturn⟩
 ·rw [Maps.size_put (hD.tidy keyed), h2 s, inN_no hno, h1, List.length_append]
  rfl
 ·by_cases hu : u = s
  ·subst hu
   rw [Maps.has_put_same hD.isMap (kl_is u) _]
   exact (inN_iff.2 (by simp)).symm
  ·rw [Maps.has_put_other (kl_ne hu) _, h2 u]
   unfold inN
   rw [List.any_append]
   have hsu : decide (s = u) = false := decide_eq_false (fun e => hu e.symm)
   simp only [List.any_cons, List.any_nil, hsu, Bool.or_false]
theorem less_lt (a b : Nm) : Op.bytesLess a.toList b.toList = decide (ltN a b) := by
 rw [ByteArray.toList_eq, ByteArray.toList_eq, bytesLess_eq]
def ahd : List Nm → Nm → Nat
 | [], _ => 0
 | s :: r, x => if ltN s x then ahd r x + 1 else 0
theorem ahd_le (ns : List Nm) (x : Nm) : ahd ns x ≤ ns.length := by
 induction ns with
 | nil => exact Nat.le_refl _
 | cons s r ih => unfold ahd; split <;> simp <;> omega
theorem ahd_lt (ns : List Nm) (x : Nm) : ∀ t, t < ahd ns x → ltN (ns.getD t x) x := by
 induction ns with
 | nil => intro t h; unfold ahd at h; omega
 | cons s r ih =>
  intro t h
  unfold ahd at h
  split at h
  ·rename_i hs
   cases t with
   | zero => exact hs
   | succ t => exact ih t (by omega)
  ·omega
theorem ahd_ge (ns : List Nm) (x : Nm) (hp : ns.Pairwise ltN) : ∀ t, ahd ns x ≤ t → ¬ ltN (ns.getD t x) x := by
 induction ns with
 | nil => intro t _ h; exact ltN_irrefl _ h
 | cons s r ih =>
  intro t h hl
  have hp' := List.pairwise_cons.1 hp
  unfold ahd at h
  split at h
  ·cases t with
   | zero => omega
   | succ t => exact ih hp'.2 t (by omega) hl
  ·rename_i hs
   cases t with
   | zero => exact hs hl
   | succ t =>
    have hl' : ltN (r.getD t x) x := hl
    by_cases ht : t < r.length
    ·have hm : r.getD t x ∈ r := by rw [List.getD_eq_getElem?_getD, List.getElem?_eq_getElem ht]; exact List.getElem_mem ht
     exact hs (ltN_trans (hp'.1 _ hm) hl')
    ·rw [List.getD_eq_getElem?_getD, List.getElem?_eq_none (by omega)] at hl'
     exact ltN_irrefl _ hl'
theorem ahd_mem (ns : List Nm) (x : Nm) (hp : ns.Pairwise ltN) : (ahd ns x < ns.length ∧ ns.getD (ahd ns x) x = x) ↔ x ∈ ns := by
 constructor
 ·rintro ⟨h1, h2⟩
  rw [List.getD_eq_getElem?_getD, List.getElem?_eq_getElem h1] at h2
  have h3 : ns[ahd ns x] = x := h2
  have := List.getElem_mem h1
  rw [h3] at this
  exact this
 ·intro h
  obtain ⟨t, ht, he⟩ := List.getElem_of_mem h
  have hge : ns.getD t x = x := by rw [List.getD_eq_getElem?_getD, List.getElem?_eq_getElem ht]; exact he
  have h1 : ¬ t < ahd ns x := fun h2 => by have := ahd_lt ns x t h2; rw [hge] at this; exact ltN_irrefl _ this
  rcases Nat.lt_or_ge (ahd ns x) t with h2 | h2
  ·have h3 : ahd ns x < ns.length := by omega
   have h4 := ahd_ge ns x hp (ahd ns x) (Nat.le_refl _)
   have h5 : ltN (ns[ahd ns x]) (ns[t]) := List.pairwise_iff_getElem.1 hp _ _ h3 ht h2
   rw [he] at h5
   rw [List.getD_eq_getElem?_getD, List.getElem?_eq_getElem h3] at h4
   exact absurd h5 h4
  ·have h3 : t = ahd ns x := by omega
   subst h3
   exact ⟨ht, hge⟩
theorem bs_any (v : Value) (ns : List Nm) (x : Nm) (B : Nat) (w : World) (ho : w.ownsRow B 9 1 v ns.length (nv ns)) (hp : ns.Pairwise ltN) (hN : ns.length ≤ 1000000) :
  Calls Tryz.prog 150 #[v, .string x] w fun e w' => ∃ I : Int, e = .returned (.tuple #[.int .i64 I, .bool (inN x ns)]) ∧ Below w.heap.size w w' := by
 rcases ho.2 with ⟨hv, h0⟩ | ⟨g, cap, cur, hv, _⟩
 ·have hns : ns = [] := List.eq_nil_of_length_eq_zero h0
  rw [hv, hns]
  refine (Any2.slices_BinarySearch_string_empty Tryz.lays2n26 none 0 x w).mono ?_
  rintro e w' ⟨rfl, rfl⟩
  exact ⟨0, by simp [inN], Below.refl _ _⟩
 ·rw [hv] at ho ⊢
  refine (Any2.slices_BinarySearch_string Tryz.lays2n26 g 0 ns.length cap (fun t => ns.getD t x) x w (by omega) (fun j hj => ?_)).mono ?_
  ·have hix : (nv ns)[j]? = some (.string (ns.getD j x)) := by unfold nv; rw [List.getElem?_map, List.getD_eq_getElem?_getD, List.getElem?_eq_getElem hj]; rfl
   have hc := ho.cells (g := g) rfl j _ hix
   rw [add_flat] at hc
   exact hc
  ·rintro e w' ⟨rfl, q, rfl⟩
   have hk : Lib.bsGo (fun t => Op.bytesLess (ns.getD t x).toList x.toList) ns.length 0 ns.length = ahd ns x :=
    Lib.bsGo_spec _ (ahd ns x) (fun t ht => by rw [less_lt]; exact decide_eq_true (ahd_lt ns x t ht)) (fun t ht => by rw [less_lt]; exact decide_eq_false (ahd_ge ns x hp t ht)) ns.length 0 ns.length (by omega) (Nat.zero_le _) (ahd_le ns x)
   rw [hk]
   refine ⟨((ahd ns x : Nat) : Int), ?_, ⟨rfl, rfl, rfl, Nat.le_refl _, fun _ _ => rfl⟩⟩
   have hm := ahd_mem ns x hp
   have e : decide (ahd ns x < ns.length ∧ ns.getD (ahd ns x) x = x) = inN x ns := by
    by_cases h : x ∈ ns
    ·rw [decide_eq_true (hm.2 h), inN_iff.2 h]
    ·rw [decide_eq_false (fun h2 => h (hm.1 h2)), inN_no h]
   rw [e]
set_option maxHeartbeats 2000000 in
theorem own_any (b off g : Nat) (hg : g < 18446744073709551616) (v : Value) (ns : List Nm) (B : Nat) (w : World) (hP : Pw w) (hc : w.cell? ⟨b, off, none⟩ = some (.int .u64 (g : Int))) (ho : w.ownsRow B 9 1 v ns.length (nv ns)) (hp : ns.Pairwise ltN) (hN : ns.length ≤ 2500) :
  Calls Tryz.prog 132 #[.pointer (some ⟨b, off, none⟩), v] w fun e w' => ∃ bm i, e = .returned (.map (some bm)) ∧ w.heap.size ≤ bm ∧ SMap w' bm (segs g 0 i) ∧ IsCnt ns g i ∧ i ≤ ns.length ∧ Below w.heap.size w w' := by
 obtain ⟨av, cv, rfl⟩ := own_sl ho
 have hmm : ∀ w : World, (Instr.makeMap 166 none).run Tryz.prog w = .ok (.map (some w.heap.size)) (w.alloc (.map #[] 0)) := fun _ => rfl
 obtain ⟨N, HN⟩ : ∃ N, Hid (ns.length = N) := ⟨_, rfl⟩
 have HO : Hid (w.ownsRow B 9 1 (.slice av ns.length cv) ns.length (nv ns)) := ho
 have HPr : Hid (ns.Pairwise ltN) := hp
 clear ho hp
 rw [HN.out] at hN ⊢
 have hbs := fun x w' (hb : Below w.heap.size w w') => bs_any (.slice av ns.length cv) ns x B w' (own_keep (S := fun _ => False) HO.out (Keep.ofBelow hb) (fun _ _ h => h)) HPr.out (by rw [HN.out]; omega)
 simp only [HN.out] at hbs
 have hsg := fun i (hi : i ≤ 9223372036854775807) w' (hb : Below w.heap.size w w') => segment_any b off g i hg hi w' (hP.below hb) ((hb.cell (World.block_lt_of_cell? _ _ hc)).trans hc)
 have hm0 := SMap.made w
 have hb0 : Below w.heap.size w (w.alloc (.map #[] 0)) := (Below.refl _ _).alloc (Nat.le_refl _) _
 go_enter Tryz.func132, Tryz.ntmps132
 go_upto_region 2 with fail
 go_loopg [6, 7, 8] (N + 1) (fun gk s6 s7 s8 wr => ∃ i : Nat, i + gk = N + 1 ∧ Hid (SMap wr w.heap.size (segs g 0 i)) ∧ Hid (∀ s ∈ segs g 0 i, s ∈ ns) ∧ Hid (Below w.heap.size w wr))
 case atStart => exact ⟨0, by omega, hm0, fun s hs => by simp [segs] at hs, hb0⟩
 case round =>
  clear hm0 hb0 hmm
  obtain ⟨i, hik, HM, HA, HB⟩ := hrel
  have hiN : i ≤ N := by rw [← HN.out]; exact cnt_le HA.out
  have hln := fun ty => HM.out.len ty
  rw [segs_len] at hln
  have hsg1 := hsg (i + 1) (by omega) wr HB.out
  have hi1 : ((i + 1 : Nat) : Int) = (i : Int) + 1 := by omega
  rw [hi1] at hsg1
  obtain ⟨s, Hs⟩ : ∃ s, Hid (segN g (i + 1) = s) := ⟨_, rfl⟩
  rw [Hs.out] at hsg1
  have hs45 : s.size ≤ maxLen := by rw [← Hs.out]; have := segN_size g (i + 1) hg (by omega); unfold maxLen; omega
  by_cases hin : s ∈ ns
  ·have hinB := inN_iff.2 hin
   have Hin : Hid (s ∈ ns) := hin
   have hbs1 := fun w' hb => hbs s w' hb
   rw [hinB] at hbs1
   have hno : s ∉ segs g 0 i := fun h => by
    obtain ⟨j, hj, e⟩ := mem_segs.1 h
    rw [← Hs.out] at e
    have := segN_inj e
    omega
   clear hin hinB hbs
   go_upto_region 6 with (first
    | (go_at_call 103; refine hsg1.mono ?_; rintro e w1 ⟨rfl, hb1⟩)
    | (go_at_call 150; refine (hbs1 w1 (HB.out.trans (hb1.mono HB.out.size))).mono ?_; rintro e w2 ⟨I, rfl, hb2⟩))
   have hM2 := (HM.out.below hb1).below hb2
   obtain ⟨w3, hrun3, hM3, hk3⟩ := hM2.store (by rw [segs_len]; omega) s hs45 hno
   have hB2 := (HB.out.trans (hb1.mono HB.out.size)).trans (hb2.mono (Nat.le_trans HB.out.size hb1.size))
   have hB3 : Below w.heap.size w w3 := hB2.trans (hk3.low hB2.size (fun j e => by omega))
   clear hM2 hk3 hB2
   go_wp2
   go_roundg (gk - 1)
   case measure => omega
   case rel =>
    refine ⟨i + 1, by omega, ?_, ?_, hB3⟩
    ·show SMap w3 w.heap.size (segs g 0 (i + 1))
     rw [segs_succ, Nat.zero_add, Hs.out]
     exact hM3
    ·show ∀ x ∈ segs g 0 (i + 1), x ∈ ns
     rw [segs_succ, Nat.zero_add, Hs.out]
     intro x hx
     rcases List.mem_append.1 hx with h1 | h1
     ·exact HA.out x h1
     ·rw [List.mem_singleton.1 h1]; exact Hin.out
  ·have hinB := inN_no hin
   have Hin : Hid (IsCnt ns g i) := ⟨HA.out, by rw [Hs.out]; exact hin⟩
   have hbs1 := fun w' hb => hbs s w' hb
   rw [hinB] at hbs1
   clear hin hinB hbs
   go_wp2_with (first
    | (go_at_call 103; refine hsg1.mono ?_; rintro e w1 ⟨rfl, hb1⟩)
    | (go_at_call 150; refine (hbs1 w1 (HB.out.trans (hb1.mono HB.out.size))).mono ?_; rintro e w2 ⟨I, rfl, hb2⟩))
   go_ret
   exact ⟨w.heap.size, i, rfl, Nat.le_refl _, (HM.out.below hb1).below hb2, Hin.out, hiN, (HB.out.trans (hb1.mono HB.out.size)).trans (hb2.mono (Nat.le_trans HB.out.size hb1.size))⟩
end Go.Proofs.YtikkieaokfailaaGreatDoor

namespace Go.Proofs.YtikkieaokfailaaGreatDoor
open Go.RowKit Go.Joins
def cntF (ns : List Nm) (g : Nat) : Nat → Nat → Nat
 | 0, i => i
 | f + 1, i => if inN (segN g (i + 1)) ns then cntF ns g f (i + 1) else i
def cntN (ns : List Nm) (g : Nat) : Nat := cntF ns g ns.length 0
theorem cntF_is {ns : List Nm} {g i : Nat} (h : IsCnt ns g i) : ∀ f j, j ≤ i → i ≤ j + f → cntF ns g f j = i
 | 0, j, h1, h2 => by show j = i; omega
 | f + 1, j, h1, h2 => by
  unfold cntF
  by_cases hj : j < i
  ·rw [if_pos (inN_iff.2 (h.1 _ (mem_segs.2 ⟨j, hj, by rw [Nat.zero_add]⟩)))]
   exact cntF_is h f (j + 1) (by omega) (by omega)
  ·have e : j = i := by omega
   subst e
   rw [if_neg (by rw [inN_no h.2]; decide)]
theorem cntN_is {ns : List Nm} {g i : Nat} (h : IsCnt ns g i) : cntN ns g = i := cntF_is h _ 0 (Nat.zero_le _) (by have := cnt_le h.1; omega)
def remAll : List Nm → Bool → Dk → Nat × Bool × Dk
 | [], dn, k => (0, dn, k)
 | s :: r, dn, k => if (stp dn k (removeK k s)).1 ≠ 0 then stp dn k (removeK k s) else remAll r (stp dn k (removeK k s)).2.1 (stp dn k (removeK k s)).2.2
theorem remAll_no {s : Nm} {r : List Nm} {dn dn' : Bool} {k k' : Dk} {en : Nat} (h : stp dn k (removeK k s) = (en, dn', k')) (h0 : en ≠ 0) : remAll (s :: r) dn k = (en, dn', k') := by
 unfold remAll; rw [h]; exact if_pos h0
theorem remAll_ok {s : Nm} {r : List Nm} {dn dn' : Bool} {k k' : Dk} (h : stp dn k (removeK k s) = (0, dn', k')) : remAll (s :: r) dn k = remAll r dn' k' := by
 show (if (stp dn k (removeK k s)).1 ≠ 0 then _ else _) = _
 rw [h]; exact if_neg (by simp)
theorem remove_gr (k : Dk) (s : Nm) : (removeK k s).2.steps ≤ k.steps + 1 ∧ (removeK k s).2.fs.length ≤ k.fs.length := by
 unfold removeK stepK
 have h1 := pass_steps k
 have h2 := pass_fs k
 split
 ·exact ⟨Nat.le_succ _, Nat.le_refl _⟩
 ·split
  ·exact ⟨Nat.le_succ _, Nat.le_refl _⟩
  ·split
   ·exact ⟨Nat.le_succ _, Nat.le_refl _⟩
   ·split
    ·exact ⟨Nat.le_succ _, Nat.le_refl _⟩
    ·split
     ·exact ⟨h1, by rw [h2]; exact Nat.le_refl _⟩
     ·refine ⟨h1, ?_⟩
      show (dropL _ _).length ≤ _
      rw [← h2]
      exact len_drop _ _
theorem stpR_gr (dn : Bool) (k : Dk) (s : Nm) : (stp dn k (removeK k s)).2.2.steps ≤ k.steps + 1 ∧ (stp dn k (removeK k s)).2.2.fs.length ≤ k.fs.length := by
 have := remove_gr k s
 unfold stp
 cases dn
 ·exact this
 ·exact ⟨Nat.le_succ _, Nat.le_refl _⟩
theorem remAll_gr : ∀ (l : List Nm) (dn : Bool) (k : Dk), (remAll l dn k).2.2.steps ≤ k.steps + l.length ∧ (remAll l dn k).2.2.fs.length ≤ k.fs.length
 | [], _, _ => ⟨Nat.le_refl _, Nat.le_refl _⟩
 | s :: r, dn, k => by
  obtain ⟨h1, h2⟩ := stpR_gr dn k s
  unfold remAll
  split
  ·exact ⟨by simp; omega, h2⟩
  ·obtain ⟨h3, h4⟩ := remAll_gr r (stp dn k (removeK k s)).2.1 (stp dn k (removeK k s)).2.2
   exact ⟨by simp; omega, by omega⟩
def left (g n : Nat) (s : Nm) : Bool := !inN s (segs g 0 n) && isOf s
def cleanL (c : Ch) (dn : Bool) (k : Dk) : Nat × Ch × Bool × Dk :=
 if (listK k).1 ≠ 0 then ((listK k).1, c, dn, k) else
 ((remAll ((listK k).2.filter (left c.g (cntN (listK k).2 c.g))) dn k).1, { c with cnt := cntN (listK k).2 c.g }, (remAll ((listK k).2.filter (left c.g (cntN (listK k).2 c.g))) dn k).2)
theorem rise_pair {l : Fls} (h : Rise l) : (l.map Prod.fst).Pairwise ltN := by
 induction l with
 | nil => exact List.Pairwise.nil
 | cons p r ih =>
  obtain ⟨n, f⟩ := p
  refine List.pairwise_cons.2 ⟨fun x hx => ?_, ih h.2⟩
  obtain ⟨y, hy, rfl⟩ := List.mem_map.1 hx
  exact h.1 y hy
set_option maxHeartbeats 4000000 in
set_option maxRecDepth 100000 in
theorem clean_any (w : World) (F : Nat → Prop) (lb d most : Nat) (v : Value) (c : Ch) (dn : Bool) (k : Dk) (h : LD w F lb d most v c dn k) (hP : Pf w F lb) (hg : c.g < 18446744073709551616) (hfl : k.fs.length ≤ 2500) (hst : k.steps < 900000) :
  Calls Tryz.prog 99 #[.pointer (some ⟨lb, 0, none⟩)] w fun e w' => Gs (cleanL c dn k).1 e ∧ Lp w F lb d most v (cleanL c dn k).2.1 (cleanL c dn k).2.2.1 (cleanL c dn k).2.2.2 w' := by
 have q0 := h.c0
 have hls := list_any d F k (by omega) w h.D
 have hprop : ((listK k).2.Pairwise ltN ∧ (listK k).2.length ≤ 2500) ∧ ∀ s ∈ (listK k).2, s.size ≤ 64 := by
  unfold listK
  split
  ·exact ⟨⟨List.Pairwise.nil, Nat.zero_le _⟩, fun s hs => by cases hs⟩
  ·refine ⟨⟨rise_pair h.D.good.rise, by rw [List.length_map]; exact hfl⟩, fun s hs => ?_⟩
   obtain ⟨y, hy, rfl⟩ := List.mem_map.1 hs
   exact isNm_size (h.D.good.each y hy).1
 unfold cleanL
 obtain ⟨P, HP⟩ : ∃ P, Hid (listK k = P) := ⟨_, rfl⟩
 rw [HP.out] at hls hprop ⊢
 obtain ⟨en, ns⟩ := P
 dsimp only at hls hprop ⊢
 obtain ⟨⟨hpw, hnl⟩, hsz⟩ := hprop
 obtain ⟨N, HN⟩ : ∃ N, Hid (ns.length = N) := ⟨_, rfl⟩
 rw [HN.out] at hls hnl
 by_cases h0 : en = 0
 ·subst h0
  rw [if_neg (by simp)]
  obtain ⟨i0, Hi0⟩ : ∃ i0, Hid (cntN ns c.g = i0) := ⟨_, rfl⟩
  rw [Hi0.out]
  obtain ⟨R, HR⟩ : ∃ R, Hid (remAll (ns.filter (left c.g i0)) dn k = R) := ⟨_, rfl⟩
  rw [HR.out]
  obtain ⟨eR, dnR, kR⟩ := R
  dsimp only
  have HPW : Hid (ns.Pairwise ltN) := hpw
  have HSZ : Hid (∀ s ∈ ns, s.size ≤ 64) := hsz
  clear hpw hsz
  go_enter Tryz.func99, Tryz.ntmps99
  go_upto_region 2 with (first
   | (go_at_call 37; refine hls.mono ?_; rintro e w1 ⟨v1, rfl, o1, hb1⟩; obtain ⟨a1, c1, rfl, hn1⟩ := own_formN o1)
   | (go_at_call 129; refine (sask_ok _ _).mono ?_; rintro e w5 ⟨rfl, h5⟩; replace h5 := h5.symm; subst h5))
  have h1 := h.below hb1
  have hP1 := hP.below hb1
  have hown := own_any lb 3 c.g hg (.slice a1 N c1) ns w.heap.size w1 hP1.pw h1.c3 (by rw [HN.out]; exact o1) HPW.out (by rw [HN.out]; exact hnl)
  go_upto_region 3 with (first
   | (go_at_call 132; refine hown.mono ?_; rintro e w2 ⟨bm, i, rfl, hbm, hM2, hct, hile, hb2⟩))
  obtain rfl : i = i0 := by rw [← Hi0.out]; exact (cntN_is hct).symm
  have h2 := h1.below hb2
  have hln := fun ty => hM2.len ty
  rw [segs_len] at hln
  have p4 := h2.c4
  have z4 := h2.fz 4
  have o2 := own_keep (S := fun _ => False) o1 (Keep.ofBelow hb2) (fun _ _ h => h)
  have hb12 := hb1.trans (hb2.mono hb1.size)
  have hbm2 : bm ≠ lb := fun e => by have := h1.lt; omega
  have h3 : LD (w2.setCell ⟨lb, 4, none⟩ (.int .i64 (i : Int))) F lb d most v { c with cnt := i } dn k := h2.set 4 _ rfl
  have hk3 : Keep (fun j => j = lb) w2 (w2.setCell ⟨lb, 4, none⟩ (.int .i64 (i : Int))) := (Keep.refl (fun j => j = lb) w2).setCell (p := ⟨lb, 4, none⟩) rfl _
  have hM3 := hM2.keep hk3 hbm2
  have hlbw := h.lt
  have o3 := own_keep o2 hk3 (fun g hg e => by have := (o1.lt g hg).1; omega)
  have kp3 : Keep (fun j => F j ∨ j = lb) w (w2.setCell ⟨lb, 4, none⟩ (.int .i64 (i : Int))) := (Keep.ofBelow hb12).trans (hk3.mono (fun j e => Or.inr e))
  have hbmw : w.heap.size ≤ bm := Nat.le_trans hb1.size hbm
  clear h1 hP1 hown hct h2 o2 hM2 hk3 hb12 hile
  go_upto_region 5 with fail
  generalize w2.setCell ⟨lb, 4, none⟩ (.int .i64 (i : Int)) = w3 at *
  have hbmS : bm < w3.heap.size := hM3.lt
  have hrowS : ∀ g, (Value.slice a1 N c1).ownBlock = some g → g < w3.heap.size := fun g hg => (o3.lt g hg).2
  have hrowW : ∀ g, (Value.slice a1 N c1).ownBlock = some g → w.heap.size ≤ g := fun g hg => (o3.lt g hg).1
  have Hst0 : Hid (LD w3 F lb d most v { c with cnt := i } dn k) := h3
  clear hln p4 z4 hb2 hb1 o1
  go_loopw [6, 7, 8, 34] (fun _ _ _ s34 wr => ∃ (j : Nat) (F1 : Nat → Prop) (dn1 : Bool) (k1 : Dk), s34 = .int .i64 j ∧ j ≤ N ∧ k1.steps + (N - j) ≤ 900000 + 2500 ∧ k1.fs.length ≤ 2500 ∧ Hid (LD wr F1 lb d most v { c with cnt := i } dn1 k1) ∧ Hid (Keep (fun j => F j ∨ j = lb) w wr) ∧ Hid (∀ j, F1 j → F j ∨ w.heap.size ≤ j) ∧ Hid (∀ j, F1 j → j ≠ bm ∧ ∀ g, (Value.slice a1 N c1).ownBlock = some g → j ≠ g) ∧ Hid (SMap wr bm (segs c.g 0 i)) ∧ Hid (wr.ownsRow w.heap.size 9 1 (.slice a1 N c1) N (nv ns)) ∧ Hid (remAll ((ns.drop j).filter (left c.g i)) dn1 k1 = (eR, dnR, kR))) (fun _ _ _ s34 _ => N - (intOf s34).toNat)
  case atStart =>
   refine ⟨0, F, dn, k, rfl, by omega, by omega, hfl, Hst0.out, kp3, fun j hj => Or.inl hj, fun j hj => ⟨fun e => ?_, fun g hg e => ?_⟩, hM3, o3, HR.out⟩
   ·have := h.D.lt j hj; omega
   ·have h9 := h.D.lt j hj; have := hrowW g hg; omega
  case round =>
   clear hM3 o3 kp3 h3 Hst0 HR hfl hst
   obtain ⟨j, F1, dn1, k1, rfl, hjN, hs1, hf1, HL, HK, HF, HB, HM, HO, HQ⟩ := hrel
   by_cases hjlt : j < N
   ·have hcj : (j : Int) < (N : Int) := by omega
    have hj0 : (0 : Int) ≤ (j : Int) := by omega
    have hjl : j < ns.length := by rw [HN.out]; exact hjlt
    obtain ⟨x, hx⟩ : ∃ x, ns[j]? = some x := ⟨_, List.getElem?_eq_getElem hjl⟩
    have hnvj : (nv ns)[j]? = some (.string x) := by unfold nv; rw [List.getElem?_map, hx]; rfl
    obtain ⟨gr, hgr⟩ : ∃ g, a1 = some ⟨g, 0, none⟩ := by
     rcases HO.out.2 with ⟨_, h0⟩ | ⟨g, cap, cur, h1, _⟩
     ·omega
     ·cases h1; exact ⟨g, rfl⟩
    subst hgr
    have hc := HO.out.cells (g := gr) rfl j _ hnvj
    rw [add_flat, Nat.zero_add] at hc
    have hx64 := HSZ.out x (List.mem_of_getElem? hx)
    have hlk := HM.out.look x (by unfold maxLen; omega)
    have hdr : ns.drop j = x :: ns.drop (j + 1) := by
     rw [List.drop_eq_getElem_cons hjl]
     congr 1
     rw [List.getElem?_eq_getElem hjl] at hx
     injection hx
    have Hdr : Hid ((ns.drop j).filter (left c.g i) = if left c.g i x then x :: (ns.drop (j + 1)).filter (left c.g i) else (ns.drop (j + 1)).filter (left c.g i)) := by
     show _ = _
     rw [hdr, List.filter_cons]
    clear hdr hx hnvj
    have hiso := fun w => isOf_any x w
    obtain ⟨mn, Hmn⟩ : ∃ mn, Hid (inN x (segs c.g 0 i) = mn) := ⟨_, rfl⟩
    rw [Hmn.out] at hlk
    obtain ⟨so, Hso⟩ : ∃ so, Hid (isOf x = so) := ⟨_, rfl⟩
    simp only [Hso.out] at hiso
    have Hlf : Hid (left c.g i x = (!mn && so)) := by show _ = _; unfold left; rw [Hmn.out, Hso.out]
    have hstp := stpR_gr dn1 k1 x
    cases mn with
    | true =>
     have HQn : Hid (remAll ((ns.drop (j + 1)).filter (left c.g i)) dn1 k1 = (eR, dnR, kR)) := by
      have h9 := HQ.out
      rw [Hdr.out, Hlf.out] at h9
      exact h9
     clear HQ hiso hstp
     go_wp2
     exact ⟨⟨j + 1, F1, dn1, k1, by go_num, by omega, by omega, hf1, HL.out.below ((Below.refl _ _).alloc (Nat.le_refl _) _), HK.out.trans (Keep.ofBelow ((Below.refl _ _).alloc (Nat.le_refl _) _)), HF.out, HB.out, HM.out.below ((Below.refl _ _).alloc (Nat.le_refl _) _), own_keep (S := fun _ => False) HO.out ((Keep.refl _ _).alloc _) (fun _ _ h => h), HQn.out⟩, by simp [intOf]; omega⟩
    | false =>
     cases so with
     | false =>
      have HQn : Hid (remAll ((ns.drop (j + 1)).filter (left c.g i)) dn1 k1 = (eR, dnR, kR)) := by
       have h9 := HQ.out
       rw [Hdr.out, Hlf.out] at h9
       exact h9
      clear HQ hstp
      go_wp2_with (first
       | (go_at_call 133; refine (hiso _).mono ?_; rintro e w5 ⟨rfl, h5⟩; replace h5 := h5.symm; subst h5))
      exact ⟨⟨j + 1, F1, dn1, k1, by go_num, by omega, by omega, hf1, HL.out.below ((Below.refl _ _).alloc (Nat.le_refl _) _), HK.out.trans (Keep.ofBelow ((Below.refl _ _).alloc (Nat.le_refl _) _)), HF.out, HB.out, HM.out.below ((Below.refl _ _).alloc (Nat.le_refl _) _), own_keep (S := fun _ => False) HO.out ((Keep.refl _ _).alloc _) (fun _ _ h => h), HQn.out⟩, by simp [intOf]; omega⟩
     | true =>
      have HQn : Hid (remAll (x :: (ns.drop (j + 1)).filter (left c.g i)) dn1 k1 = (eR, dnR, kR)) := by
       have h9 := HQ.out
       rw [Hdr.out, Hlf.out] at h9
       exact h9
      clear HQ
      have hrm := fun w' (hb : Below wr.heap.size wr w') => sremove_any lb d most F1 v _ dn1 k1 x (by omega) w' (HL.out.below hb)
      obtain ⟨P, HP⟩ : ∃ P, Hid (stp dn1 k1 (removeK k1 x) = P) := ⟨_, rfl⟩
      simp only [HP.out] at hrm
      rw [HP.out] at hstp
      obtain ⟨en, dn2, k2⟩ := P
      dsimp only at hrm hstp
      by_cases h0 : en = 0
      ·subst h0
       have HQ2 : Hid (remAll ((ns.drop (j + 1)).filter (left c.g i)) dn2 k2 = (eR, dnR, kR)) := by
        show _ = _
        rw [← remAll_ok HP.out]
        exact HQn.out
       clear HQn
       go_wp2_with (first
        | (go_at_call 133; refine (hiso _).mono ?_; rintro e w5 ⟨rfl, h5⟩; replace h5 := h5.symm; subst h5)
        | (go_at_call 134; refine ((hrm _ ((Below.refl _ _).alloc (Nat.le_refl _) _)).mono (fun e w' h => And.intro (h.1.elim (fun k => k.2) (fun k => absurd rfl k.1)) h.2 : ∀ e w', _ → (e = .returned (.tuple #[]) ∧ _))).mono ?_; rintro e w6 ⟨rfl, hp⟩))
       obtain ⟨F2, hL2, hk2, hF2⟩ := hp.from ((Below.refl wr.heap.size wr).alloc (Nat.le_refl _) _)
       have hbmr := HM.out.lt
       have hgrl := fun g hg => (HO.out.lt g hg).2
       have hgrw := fun g hg => (HO.out.lt g hg).1
       have hsw := HK.out.size
       have hlbr := HL.out.lt
       have hkall : Keep (fun j => F j ∨ j = lb) w w6 := HK.out.andThen hk2 (fun q hq hs => by
        rcases hs with hs | hs
        ·rcases HF.out q hs with h9 | h9
         ·exact Or.inl h9
         ·omega
        ·exact Or.inr hs)
       have hn1 : ¬ (F1 bm ∨ bm = lb) := fun h9 => h9.elim (fun h9 => (HB.out bm h9).1 rfl) hbm2
       have hn2 : ∀ g, (Value.slice (some ⟨gr, 0, none⟩) N c1).ownBlock = some g → ¬ (F1 g ∨ g = lb) := fun g hg h9 => h9.elim (fun h9 => (HB.out g h9).2 g hg rfl) (fun e => by have := hgrw g hg; omega)
       exact ⟨⟨j + 1, F2, dn2, k2, by go_num, by omega, by omega, by omega, hL2, hkall, fun q hq => (hF2 q hq).elim (HF.out q) (fun h9 => Or.inr (Nat.le_trans hsw h9)), fun q hq => ⟨fun e => (hF2 q hq).elim (fun h9 => (HB.out q h9).1 e) (fun h9 => by omega), fun g hg e => (hF2 q hq).elim (fun h9 => (HB.out q h9).2 g hg e) (fun h9 => by have := hgrl g hg; omega)⟩, HM.out.keep hk2 hn1, own_keep HO.out hk2 hn2, HQ2.out⟩, by simp [intOf]; omega⟩
      ·have hres := HQn.out.symm.trans (remAll_no HP.out h0)
       simp only [Prod.mk.injEq] at hres
       obtain ⟨e1, e2, e3⟩ := hres
       subst eR dnR kR
       clear HQn
       go_wp2_with (first
        | (go_at_call 133; refine (hiso _).mono ?_; rintro e w5 ⟨rfl, h5⟩; replace h5 := h5.symm; subst h5)
        | (go_at_call 134; refine ((hrm _ ((Below.refl _ _).alloc (Nat.le_refl _) _)).mono (fun e w' h => And.intro (h.1.elim (fun k => absurd k.1 h0) (fun k => k.2)) h.2 : ∀ e w', _ → (e = .panicked (gaveS en) ∧ _))).mono ?_; rintro e w6 ⟨rfl, hp⟩))
       exact ⟨rfl, gs_no h0 rfl, Lp.next HK.out HF.out (hp.from ((Below.refl wr.heap.size wr).alloc (Nat.le_refl _) _))⟩
   ·obtain rfl : j = N := by omega
    have hcj : ¬ (j : Int) < (j : Int) := by omega
    have hQ := HQ.out
    rw [List.drop_eq_nil_of_le (by rw [HN.out]; exact Nat.le_refl _)] at hQ
    have hQ2 : (0, dn1, k1) = (eR, dnR, kR) := hQ
    simp only [Prod.mk.injEq] at hQ2
    obtain ⟨e1, e2, e3⟩ := hQ2
    subst eR dnR kR
    clear hQ HQ
    go_wp2
    go_end0
    exact ⟨Or.inl ⟨rfl, rfl⟩, F1, HL.out, HK.out, HF.out⟩
 ·rw [if_pos h0]
  have e0 : ((en : Int) == 0) = false := by rw [beq_eq_false_iff_ne]; omega
  clear hpw hsz
  go_enter Tryz.func99, Tryz.ntmps99
  go_wp2_with (first
   | (go_at_call 37; refine hls.mono ?_; rintro e w1 ⟨v1, rfl, o1, hb1⟩; obtain ⟨a1, c1, rfl, hn1⟩ := own_formN o1)
   | (go_at_call 129; refine (sask_no en _).mono ?_; rintro e w5 ⟨rfl, h5⟩; replace h5 := h5.symm; subst h5))
  exact ⟨rfl, gs_no h0 rfl, Lp.ofBelow h hb1⟩
end Go.Proofs.YtikkieaokfailaaGreatDoor

namespace Go.Proofs.YtikkieaokfailaaGreatDoor
open Go.RowKit Go.Joins
set_option maxHeartbeats 2000000 in
theorem remSegs_any (w : World) (F : Nat → Prop) (lb d most : Nat) (v : Value) (c : Ch) (dn : Bool) (k : Dk) (c2 : Ch) (f : Nat) (h : LD w F lb d most v c dn k) (hP : Pf w F lb) (hg : c2.g < 18446744073709551616) (hc : c2.cnt ≤ 100000) (hst : k.steps + c2.cnt < 1000000) :
  Calls Tryz.prog 112 #[.pointer (some ⟨lb, 0, none⟩), .agg (chs c2), .int .i64 ((f + 1 : Nat) : Int)] w fun e w' => Gs (remAll (segs c2.g f (c2.cnt - f)) dn k).1 e ∧ Lp w F lb d most v c (remAll (segs c2.g f (c2.cnt - f)) dn k).2.1 (remAll (segs c2.g f (c2.cnt - f)) dn k).2.2 w' := by
 obtain ⟨R, HR⟩ : ∃ R, Hid (remAll (segs c2.g f (c2.cnt - f)) dn k = R) := ⟨_, rfl⟩
 rw [HR.out]
 obtain ⟨eR, dnR, kR⟩ := R
 dsimp only
 have hbe : Below w.heap.size w (w.alloc (.cells (chs c2) 117)) := (Below.refl _ _).alloc (Nat.le_refl _) _
 have hfil := alloc_at w (.cells (chs c2) 117)
 have hlt := h.D.lt
 have hlb := h.lt
 obtain ⟨N, HN⟩ : ∃ N, Hid (c2.cnt = N) := ⟨_, rfl⟩
 rw [HN.out] at hc hst
 obtain ⟨g, Hg⟩ : ∃ g, Hid (c2.g = g) := ⟨_, rfl⟩
 rw [Hg.out] at hg
 have hch : chs c2 = #[.int .u64 (g : Int), .int .i64 (N : Int), .int .i64 (c2.size : Int), .bool c2.loose] := by unfold chs; rw [Hg.out, HN.out]
 have hf1 : ((f + 1 : Nat) : Int) = (f : Int) + 1 := by omega
 have hbb : ¬ F w.heap.size := fun hf => by have := hlt _ hf; omega
 have hLA := h.below hbe
 have hPA := hP.below hbe
 rw [hch] at hfil hbe hLA hPA ⊢
 rw [hf1]
 have hR9 : Hid (remAll (segs g f (N - f)) dn k = (eR, dnR, kR)) := by
  have h9 := HR.out
  rw [Hg.out, HN.out] at h9
  exact h9
 clear HR hch
 go_enter Tryz.func112, Tryz.ntmps112
 go_upto_region 2 with fail
 obtain ⟨bb, hbb0⟩ : ∃ bb, w.heap.size = bb := ⟨_, rfl⟩
 rw [hbb0] at hfil hbb ⊢
 generalize w.alloc (.cells #[.int .u64 (g : Int), .int .i64 (N : Int), .int .i64 (c2.size : Int), .bool c2.loose] 117) = Z at *
 go_loopw [6] (fun s6 wr => ∃ (j : Nat) (F1 : Nat → Prop) (dn1 : Bool) (k1 : Dk), s6 = .int .i64 (((f + j : Nat) : Int) + 1) ∧ (f + j ≤ N ∨ j = 0) ∧ k1.steps + (N - (f + j)) < 1000000 ∧ Hid (LD wr F1 lb d most v c dn1 k1) ∧ Hid (Pf wr F1 lb) ∧ Hid (Keep (fun i => F i ∨ i = lb) w wr) ∧ Hid (∀ i, F1 i → F i ∨ w.heap.size ≤ i) ∧ Hid (¬ F1 bb) ∧ Hid (wr.heap[bb]? = some (.cells #[.int .u64 (g : Int), .int .i64 (N : Int), .int .i64 (c2.size : Int), .bool c2.loose] 117 (0, 0))) ∧ Hid (remAll (segs g (f + j) (N - (f + j))) dn1 k1 = (eR, dnR, kR))) (fun s6 _ => N + 1 - (intOf s6).toNat)
 case atStart => exact ⟨0, F, dn, k, rfl, Or.inr rfl, by omega, hLA, hPA, Keep.ofBelow hbe, fun i hi => Or.inl hi, hbb, hfil, hR9.out⟩
 case round =>
  clear hLA hPA hbe hfil hbb hR9
  obtain ⟨j, F1, dn1, k1, rfl, hjN, hs1, HL, HP, HK, HF, HB, HX, HQ⟩ := hrel
  have qc : wr.cell? ⟨bb, 1, none⟩ = some (.int .i64 (N : Int)) := by rw [cell_of_block HX.out]; rfl
  have qg : wr.cell? ⟨bb, 0, none⟩ = some (.int .u64 (g : Int)) := by rw [cell_of_block HX.out]; rfl
  obtain ⟨J, HJ⟩ : ∃ J, Hid (f + j = J) := ⟨_, rfl⟩
  rw [HJ.out] at hjN hs1 HQ ⊢
  have hbw : w.heap.size = bb := hbb0
  by_cases hle : J + 1 ≤ N
  ·have hz : (J : Int) + 1 ≤ (N : Int) := by omega
   have hsg := segment_any bb 0 g (J + 1) hg (by omega) wr HP.out.pw qg
   have hJ1 : ((J + 1 : Nat) : Int) = (J : Int) + 1 := by omega
   rw [hJ1] at hsg
   obtain ⟨s, Hs⟩ : ∃ s, Hid (segN g (J + 1) = s) := ⟨_, rfl⟩
   rw [Hs.out] at hsg
   have HQn : Hid (remAll (s :: segs g (J + 1) (N - (J + 1))) dn1 k1 = (eR, dnR, kR)) := by
    have h9 := HQ.out
    have e : N - J = (N - (J + 1)) + 1 := by omega
    rw [e, segs_cons, Hs.out] at h9
    exact h9
   have hstp := stpR_gr dn1 k1 s
   have hrm := fun w' (hb : Below wr.heap.size wr w') => sremove_any lb d most F1 v _ dn1 k1 s (by omega) w' (HL.out.below hb)
   obtain ⟨P, HP2⟩ : ∃ P, Hid (stp dn1 k1 (removeK k1 s) = P) := ⟨_, rfl⟩
   simp only [HP2.out] at hrm
   rw [HP2.out] at hstp
   obtain ⟨en, dn2, k2⟩ := P
   dsimp only at hrm hstp
   clear HQ
   by_cases h0 : en = 0
   ·subst h0
    have HQ2 : Hid (remAll (segs g (J + 1) (N - (J + 1))) dn2 k2 = (eR, dnR, kR)) := by
     show _ = _
     rw [← remAll_ok HP2.out]
     exact HQn.out
    clear HQn
    go_wp2_with (first
     | (go_at_call 103; refine hsg.mono ?_; rintro e w5 ⟨rfl, hb5⟩)
     | (go_at_call 134; refine ((hrm w5 hb5).mono (fun e w' h => And.intro (h.1.elim (fun k => k.2) (fun k => absurd rfl k.1)) h.2 : ∀ e w', _ → (e = .returned (.tuple #[]) ∧ _))).mono ?_; rintro e w6 ⟨rfl, hp⟩))
    obtain ⟨F2, hL2, hk2, hF2⟩ := hp.from hb5
    have hsw := HK.out.size
    have hbr : bb < wr.heap.size := (Array.getElem?_eq_some_iff.1 HX.out).1
    have hkall : Keep (fun j => F j ∨ j = lb) w w6 := HK.out.andThen hk2 (fun q hq hs => by
     rcases hs with hs | hs
     ·rcases HF.out q hs with h9 | h9
      ·exact Or.inl h9
      ·omega
     ·exact Or.inr hs)
    have hnb : ¬ (F1 bb ∨ bb = lb) := fun h9 => h9.elim HB.out (fun e => by omega)
    refine ⟨⟨j + 1, F2, dn2, k2, ?_, Or.inl ?_, ?_, hL2, HP.out.next hk2 hF2, hkall, fun q hq => (hF2 q hq).elim (HF.out q) (fun h9 => Or.inr (Nat.le_trans hsw h9)), fun hq => (hF2 bb hq).elim HB.out (fun h9 => by omega), box_keep HX.out hk2 hnb, ?_⟩, ?_⟩
    ·have e : ((f + (j + 1) : Nat) : Int) = (J : Int) + 1 := by have := HJ.out; omega
     rw [e]
    ·have := HJ.out; omega
    ·have := HJ.out; omega
    ·show remAll (segs g (f + (j + 1)) (N - (f + (j + 1)))) dn2 k2 = _
     have e : f + (j + 1) = J + 1 := by have := HJ.out; omega
     rw [e]
     exact HQ2.out
    ·simp [intOf]; omega
   ·have hres := HQn.out.symm.trans (remAll_no HP2.out h0)
    simp only [Prod.mk.injEq] at hres
    obtain ⟨e1, e2, e3⟩ := hres
    subst eR dnR kR
    clear HQn
    go_wp2_with (first
     | (go_at_call 103; refine hsg.mono ?_; rintro e w5 ⟨rfl, hb5⟩)
     | (go_at_call 134; refine ((hrm w5 hb5).mono (fun e w' h => And.intro (h.1.elim (fun k => absurd k.1 h0) (fun k => k.2)) h.2 : ∀ e w', _ → (e = .panicked (gaveS en) ∧ _))).mono ?_; rintro e w6 ⟨rfl, hp⟩))
    exact ⟨rfl, gs_no h0 rfl, Lp.next HK.out HF.out (hp.from hb5)⟩
  ·have hz : ¬ (J : Int) + 1 ≤ (N : Int) := by omega
   have hQ := HQ.out
   rw [show N - J = 0 from by omega] at hQ
   have hQ2 : (0, dn1, k1) = (eR, dnR, kR) := hQ
   simp only [Prod.mk.injEq] at hQ2
   obtain ⟨e1, e2, e3⟩ := hQ2
   subst eR dnR kR
   clear hQ HQ
   go_wp2
   go_end0
   exact ⟨Or.inl ⟨rfl, rfl⟩, F1, HL.out, HK.out, HF.out⟩
set_option maxHeartbeats 1000000 in
theorem cutC_any (bl bn lb d most : Nat) (F : Nat → Prop) (v : Value) (c : Ch) (dn : Bool) (k : Dk) (s : Nm) (hst : k.steps < 1000000) (hfl : k.fs.length < 1000000) (W : World) (h : LD W F lb d most v c dn k) (hbl : W.heap[bl]? = some (.cells #[.pointer (some ⟨lb, 0, none⟩)] 48 (0, 0))) (hbn : W.heap[bn]? = some (.cells #[.string s] 9 (0, 0))) (nbl : ¬ F bl) (nbn : ¬ F bn) :
  Calls Tryz.prog 155 #[.pointer (some ⟨bl, 0, none⟩), .pointer (some ⟨bn, 0, none⟩)] W fun e w' => e = .returned (.int .i64 (cutK k s (c.size : Int)).1) ∧ Dp W F d (cutK k s (c.size : Int)).2 w' := by
 have HS0 : W.drew.cell? ⟨bl, 0, none⟩ = some (.pointer (some ⟨lb, 0, none⟩)) ∧ W.drew.cell? ⟨bn, 0, none⟩ = some (.string s) ∧ W.drew.cell? ⟨lb, 0, none⟩ = some (.pointer (some ⟨d, 0, none⟩)) ∧ W.drew.cell? ⟨lb, 5, none⟩ = some (.int .i64 (c.size : Int)) := ⟨box_cell hbl, box_cell hbn, h.c0, h.c5⟩
 have hD := fun w' (hb : Below W.heap.size W w') => cut_any d F k s (c.size : Int) hst hfl w' (h.D.below hb)
 obtain ⟨P, hP⟩ : ∃ P, cutK k s (c.size : Int) = P := ⟨_, rfl⟩
 rw [hP] at hD ⊢
 clear hP
 have nlb := h.nf
 go_enter Tryz.func155, Tryz.ntmps155
 go_upto_region 1 with fail
 refine wp_region_lx (fun w' => w'.cell? ⟨bl, 0, none⟩ = some (.pointer (some ⟨lb, 0, none⟩)) ∧ w'.cell? ⟨bn, 0, none⟩ = some (.string s) ∧ w'.cell? ⟨lb, 0, none⟩ = some (.pointer (some ⟨d, 0, none⟩)) ∧ w'.cell? ⟨lb, 5, none⟩ = some (.int .i64 (c.size : Int))) [] 12 (by kernel_rfl) (by kernel_rfl) ?_
 refine lx_r 0 (.pointer (some ⟨lb, 0, none⟩)) HS0 ?_ (hv := fun w' hS => by have q := hS.1; first | (go_simp; rfl) | go_simp); simp only [lxa, lxb, lxc]
 refine lx_r 1 (.pointer (some ⟨lb, 0, none⟩)) HS0 ?_; simp only [lxa, lxb, lxc]
 refine lx_r 2 (.pointer (some ⟨lb, 0, none⟩)) HS0 ?_; simp only [lxa, lxb, lxc]
 refine lx_r 3 (.pointer (some ⟨d, 0, none⟩)) HS0 ?_ (hv := fun w' hS => by have q := hS.2.2.1; first | (go_simp; rfl) | go_simp); simp only [lxa, lxb, lxc]
 refine lx_r 4 (.string s) HS0 ?_ (hv := fun w' hS => by have q := hS.2.1; first | (go_simp; rfl) | go_simp); simp only [lxa, lxb, lxc]
 refine lx_r 5 (.pointer (some ⟨lb, 0, none⟩)) HS0 ?_ (hv := fun w' hS => by have q := hS.1; first | (go_simp; rfl) | go_simp); simp only [lxa, lxb, lxc]
 refine lx_r 6 (.pointer (some ⟨lb, 0, none⟩)) HS0 ?_; simp only [lxa, lxb, lxc]
 refine lx_r 7 (.pointer (some ⟨lb, 3, none⟩)) HS0 ?_; simp only [lxa, lxb, lxc]
 refine lx_r 8 (.pointer (some ⟨lb, 5, none⟩)) HS0 ?_; simp only [lxa, lxb, lxc]
 refine lx_r 9 (.int .i64 (c.size : Int)) HS0 ?_ (hv := fun w' hS => by have q := hS.2.2.2; first | (go_simp; rfl) | go_simp); simp only [lxa, lxb, lxc]
 refine lx_one 10 (by kernel_rfl) (stepT_call 156 ?a9 rfl rfl rfl ?r9 ?_)
 case r9 => first | (go_simp; rfl) | go_simp
 refine (hD W.drew ((Below.refl _ _).drew)).mono ?_
 rintro e w1 ⟨rfl, hdp⟩
 have HS1 : w1.cell? ⟨bl, 0, none⟩ = some (.pointer (some ⟨lb, 0, none⟩)) ∧ w1.cell? ⟨bn, 0, none⟩ = some (.string s) ∧ w1.cell? ⟨lb, 0, none⟩ = some (.pointer (some ⟨d, 0, none⟩)) ∧ w1.cell? ⟨lb, 5, none⟩ = some (.int .i64 (c.size : Int)) := by
  obtain ⟨_, _, hk, _⟩ := hdp
  exact ⟨hk.cell (p := ⟨bl, 0, none⟩) HS0.1 nbl, hk.cell (p := ⟨bn, 0, none⟩) HS0.2.1 nbn, hk.cell (p := ⟨lb, 0, none⟩) HS0.2.2.1 nlb, hk.cell (p := ⟨lb, 5, none⟩) HS0.2.2.2 nlb⟩
 refine ⟨_, rfl, fun _ => HS1, ?_⟩
 simp only [lxa, lxb, lxc]
 refine lx_r 11 _ HS1 ?_; simp only [lxa, lxb, lxc]
 refine lx_nil (by kernel_rfl) ?_
 go_wp2
 go_ret
 exact ⟨rfl, dp_drew hdp⟩
end Go.Proofs.YtikkieaokfailaaGreatDoor
