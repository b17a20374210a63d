/- A file of the document's disk is turned in place. -/
import Derived.Test.YtikkieaokfailaaGreatDoorDkL
namespace Go.Proofs.YtikkieaokfailaaGreatDoor
open Go.RowKit Go.Joins

theorem own_set {w : World} {B sz n cap g : Nat} {t : TypeId} {xs : List Value} (h : w.ownsRow B t sz (.slice (some ⟨g, 0, none⟩) n cap) n xs) {i : Nat} (u : Value) : (w.setCell ⟨g, i, none⟩ u).ownsRow B t sz (.slice (some ⟨g, 0, none⟩) n cap) n (xs.set i u) := by
  obtain ⟨h1, h2⟩ := h
  refine ⟨by rw [List.length_set]; exact h1, ?_⟩
  rcases h2 with ⟨h2, _⟩ | ⟨g', cap', cur, hv, hg, hh, hn, hc, hs, ht⟩
  · cases h2
  · cases hv
    refine Or.inr ⟨g, cap, cur.setIfInBounds i u, rfl, hg, block_setCell hh u, hn, hc, by simp [hs], ?_⟩
    rw [Array.toList_setIfInBounds, List.take_set, ht]
theorem ev_mid (sl : Nm → Value) (p q : Fls) (s : Nm) (f : Fle) : ev sl (p ++ (s, f) :: q) = ev sl p ++ (.string s :: sl s :: .int .i64 (f.safe : Int) :: ev sl q) := by rw [ev_app]; rfl
theorem ev_setB (sl sl' : Nm → Value) (p q : Fls) (s : Nm) (f : Fle) (b' : List Int) (v : Value) (hs : sl' s = v) (hp : ∀ x ∈ p, sl' x.1 = sl x.1) (hq : ∀ x ∈ q, sl' x.1 = sl x.1) : (ev sl (p ++ (s, f) :: q)).set (p.length * 3 + 1) v = ev sl' (p ++ (s, ⟨b', f.safe⟩) :: q) := by
  rw [ev_mid, ev_mid, hs, ← ev_congr hp, ← ev_congr hq, List.set_append_right _ _ (by rw [ev_len]; omega), ev_len]
  rw [ev_congr hp]
  congr 1
  rw [show p.length * 3 + 1 - p.length * 3 = 1 by omega, ev_congr hq]
  rfl
theorem ev_setS (sl : Nm → Value) (p q : Fls) (s : Nm) (f : Fle) (n : Nat) : (ev sl (p ++ (s, f) :: q)).set (p.length * 3 + 2) (.int .i64 (n : Int)) = ev sl (p ++ (s, ⟨f.b, n⟩) :: q) := by
  rw [ev_mid, ev_mid, List.set_append_right _ _ (by rw [ev_len]; omega), ev_len]
  congr 1
  rw [show p.length * 3 + 2 - p.length * 3 = 2 by omega]
  rfl
/-- A list, split where a name stands. -/
theorem split_at {l : Fls} {j : Nat} {s : Nm} {f : Fle} (h : l[j]? = some (s, f)) : ∃ p q, l = p ++ (s, f) :: q ∧ p.length = j := by
  have hj : j < l.length := (List.getElem?_eq_some_iff.1 h).1
  have he : l[j] = (s, f) := (List.getElem?_eq_some_iff.1 h).2
  refine ⟨l.take j, l.drop (j + 1), ?_, by rw [List.length_take]; omega⟩
  rw [← he, ← List.drop_eq_getElem_cons hj, List.take_append_drop]

/-- The bytes of a file are turned: the cell of its row is stored. -/
theorem RefAt.setB {w w0 : World} {G : Nat → Prop} {rd : Nat} {k : Dk} {s : Nm} {f : Fle} {j : Nat} {b' : List Int} {v : Value} (h : RefAt w0 G rd k) (hb : Below w0.heap.size w0 w) (hix : k.fs[j]? = some (s, f))
    (hv : w.ownsRow w0.heap.size 5 1 v b'.length (bc b')) (hg : ({ k with fs := putL k.fs s ⟨b', f.safe⟩ } : Dk).Good) :
    ∃ g cap, w.cell? ⟨rd, 0, none⟩ = some (.slice (some ⟨g, 0, none⟩) k.fs.length cap) ∧ k.fs.length ≤ cap ∧ (∃ u, w.cell? ⟨g, j * 3 + 1, none⟩ = some u) ∧ w.frozen? ⟨g, j * 3 + 1, none⟩ = false ∧ Rp w0 G rd { k with fs := putL k.fs s ⟨b', f.safe⟩ } (w.setCell ⟨g, j * 3 + 1, none⟩ v) := by
  have hjl : j < k.fs.length := (List.getElem?_eq_some_iff.1 hix).1
  have hlt := h.lt
  have hrise := h.good.rise
  obtain ⟨⟨v0, sl, hblk, hrow, hvG, hlies, hslv⟩, hGrd, _, _⟩ := h
  obtain ⟨g, cap, e, hcap, _, hcs⟩ := row3 hrow (by omega)
  subst e
  have hgl := hrow.lt g rfl
  have hblkw := box_below hblk hb
  have hroww := own_keep (S := fun _ => False) hrow (Keep.ofBelow hb) (fun _ _ h => h)
  obtain ⟨cur, hcur⟩ := own_blk hroww (g := g) rfl
  have hgne : g ≠ rd := fun e => by subst e; rw [hblkw] at hcur; cases hcur
  have hcell := (hb.cell (p := ⟨g, j * 3 + 1, none⟩) hgl.2).trans (hcs j (s, f) hix).2.1
  refine ⟨g, cap, by rw [cell_of_block hblkw]; rfl, hcap, ⟨_, hcell⟩, unfrozen_of_block hcur _, ?_⟩
  obtain ⟨p, q, hl, hp⟩ := split_at hix
  have hr2 : Rise (p ++ (s, f) :: q) := by rw [← hl]; exact hrise
  have hput : putL k.fs s ⟨b', f.safe⟩ = p ++ (s, ⟨b', f.safe⟩) :: q := by rw [hl]; exact put_mid hr2
  have hnp : ∀ x ∈ p, x.1 ≠ s := fun x hx e => by
    have hnd := rise_nodup hr2
    rw [List.map_append, List.map_cons] at hnd
    have := (List.nodup_append.1 hnd).2.2 x.1 (List.mem_map_of_mem hx) s (List.mem_cons_self ..)
    exact this e
  have hnq : ∀ x ∈ q, x.1 ≠ s := fun x hx e => by
    have hnd := rise_nodup hr2
    rw [List.map_append, List.map_cons] at hnd
    have h2 := (List.nodup_cons.1 (List.nodup_append.1 hnd).2.1).1
    exact h2 (List.mem_map.2 ⟨x, hx, e⟩)
  obtain ⟨sl', hsl'⟩ : ∃ sl' : Nm → Value, sl' = fun t => if t = s then v else sl t := ⟨_, rfl⟩
  have hss : sl' s = v := by rw [hsl']; simp
  have hso : ∀ t, t ≠ s → sl' t = sl t := fun t ht => by rw [hsl']; simp [ht]
  have hone : ∀ t, ∃ a n c, sl' t = .slice a n c := fun t => by
    by_cases h : t = s
    · rw [h, hss]
      obtain ⟨a, c, e, _⟩ := Rd.ofRowE hv
      exact ⟨a, _, c, e⟩
    · rw [hso t h]; exact hslv t
  have hkS : Keep (fun i => i = g) w (w.setCell ⟨g, j * 3 + 1, none⟩ v) := (Keep.refl (fun i => i = g) w).setCell (p := ⟨g, j * 3 + 1, none⟩) rfl _
  have hk0 : Keep (fun i => i = g) w0 (w.setCell ⟨g, j * 3 + 1, none⟩ v) := (Keep.ofBelow hb).trans hkS
  have hsz : (w.setCell ⟨g, j * 3 + 1, none⟩ v).heap.size = w.heap.size := by simp [World.setCell]
  refine ⟨fun i => G i ∨ (w0.heap.size ≤ i ∧ i < w.heap.size), ⟨⟨.slice (some ⟨g, 0, none⟩) k.fs.length cap, sl', ?_, ?_, ?_, ?_, hone⟩, Or.inl hGrd, ?_, hg⟩, hk0.mono (fun i e => by subst e; exact hvG _ rfl), fun i hi => hi.imp id (fun h => h.1)⟩
  · exact box_keep hblkw hkS (fun e => hgne e.symm)
  · show World.ownsRow _ _ _ _ _ (putL k.fs s ⟨b', f.safe⟩).length (ev sl' (putL k.fs s ⟨b', f.safe⟩))
    have hlen : (putL k.fs s ⟨b', f.safe⟩).length = k.fs.length := by rw [hput, hl]; simp
    rw [hlen, hput, ← ev_setB sl sl' p q s f b' v hss (fun x hx => hso _ (hnp x hx)) (fun x hx => hso _ (hnq x hx)), ← hl, hp]
    exact own_set hroww v
  · intro g' hg'
    exact Or.inl (hvG g' hg')
  · intro x hx
    have hm : x ∈ putL k.fs s ⟨b', f.safe⟩ := hx
    rw [hput] at hm
    rcases List.mem_append.1 hm with hx | hx
    · rw [hso _ (hnp x hx)]
      have hin : x ∈ k.fs := by rw [hl]; exact List.mem_append_left _ hx
      refine (hlies x hin).keep hk0 (fun g' hg' e => ?_) (fun _ h => Or.inl h)
      obtain ⟨cur', h2⟩ := own_blk (hlies x hin).1 hg'
      subst e
      obtain ⟨cur2, h3⟩ := own_blk hrow (g := g') rfl
      rw [h3] at h2; cases h2
    · rcases List.mem_cons.1 hx with rfl | hx
      · show Lies _ _ (sl' s) _
        rw [hss]
        refine ⟨own_weak (own_keep hv hkS (fun g' hg' e => ?_)) (Nat.zero_le _), fun g' hg' => Or.inr (hv.lt g' hg')⟩
        have := (hv.lt g' hg').1
        have := hgl.2
        omega
      · rw [hso _ (hnq x hx)]
        have hin : x ∈ k.fs := by rw [hl]; exact List.mem_append_right _ (List.mem_cons_of_mem _ hx)
        refine (hlies x hin).keep hk0 (fun g' hg' e => ?_) (fun _ h => Or.inl h)
        obtain ⟨cur', h2⟩ := own_blk (hlies x hin).1 hg'
        subst e
        obtain ⟨cur2, h3⟩ := own_blk hrow (g := g') rfl
        rw [h3] at h2; cases h2
  · intro i hi
    rw [hsz]
    rcases hi with h | h
    · exact Nat.lt_of_lt_of_le (hlt i h) hb.size
    · exact h.2

theorem pass_with (k : Dk) (l : Fls) : passK { k with fs := l } = ((passK k).1, { (passK k).2 with fs := l }) := by
  unfold passK
  dsimp only
  cases k.fu with
  | none => rfl
  | some n => cases n <;> rfl
theorem put_put (l : Fls) (hr : Rise l) (s : Nm) (f g : Fle) : putL (putL l s f) s g = putL l s g := by
  induction l with
  | nil =>
    rw [show putL [] s f = [(s, f)] from rfl, show putL [] s g = [(s, g)] from rfl]
    conv => lhs; unfold putL
    rw [if_neg (ltN_irrefl s), if_pos rfl]
  | cons q r ih =>
    obtain ⟨n, x⟩ := q
    conv => rhs; unfold putL
    rw [show putL ((n, x) :: r) s f = (if ltN s n then (s, f) :: (n, x) :: r else if n = s then (s, f) :: r else (n, x) :: putL r s f) by rfl]
    split
    · unfold putL
      rw [if_neg (ltN_irrefl s), if_pos rfl]
    · rename_i h1
      split
      · unfold putL
        rw [if_neg (ltN_irrefl s), if_pos rfl]
      · rename_i h2
        conv => lhs; unfold putL
        rw [if_neg h1, if_neg h2, ih hr.2]

set_option maxRecDepth 100000 in
set_option maxHeartbeats 4000000 in
/-- The last part of the document's Append: the file is there. -/
theorem refAppend_any (rd : Nat) (G : Nat → Prop) (k : Dk) (s : Nm) (hs : s.size ≤ 9223372036854775807) (a : Option Addr) (n c : Nat) (ys : List Int) (hst : k.steps < 1000000) (hfl : k.fs.length < 999999) (w : World) (hR : RefAt w G rd k) (hY : Rd w a n c ys) (hYG : ∀ ad, a = some ad → ¬ G ad.block) :
    Calls Tryz.prog 18 #[.pointer (some ⟨rd, 0, none⟩), .string s, .slice a n c] w fun e w' => e = .returned (.int .i64 (appK k s ys).1) ∧ Rp w G rd (appK k s ys).2 w' := by
  have hF := first_any rd G k s hs false w hR
  have hgood := hR.good
  have hroom := hgood.room
  have husd := hgood.used
  by_cases h0 : firstK k s false = 0
  · rw [h0] at hF
    have hon : k.off = false ∧ isNm s = true := by
      unfold firstK at h0
      cases h1 : k.off <;> cases h2 : isNm s <;> simp_all
    obtain ⟨on, hnm⟩ := hon
    have hU := fun w hR => refUsed_any rd G k w hR
    have hq1 : w.cell? ⟨rd, 1, none⟩ = some (.int .i64 (k.room : Int)) := by
      obtain ⟨⟨v, sl, hblk, _⟩, _⟩ := hR
      rw [cell_of_block hblk]; rfl
    have hw1 : IntKind.i64.wrap ((k.room : Int) - (used k.fs : Int)) = (k.room : Int) - (used k.fs : Int) := by rw [IntKind.wrap_i64]; omega
    have hlen1 := fun w => len_slice a n c 29 3 w Tryz.underlying29
    by_cases hfit : n + used k.fs ≤ k.room
    · have ep : appK k s ys = passK { k with fs := putL k.fs s ⟨((look k.fs s).map Fle.b).getD [] ++ ys, ((look k.fs s).map Fle.safe).getD 0⟩ } := by
        unfold appK
        rw [on, hnm, hY.len]
        simp [hfit]
      rw [ep, pass_with]
      have hng : ¬ (k.room : Int) - (used k.fs : Int) < (n : Int) := by omega
      have hgt : decide ((k.room : Int) - (used k.fs : Int) < (n : Int)) = false := by simp; omega
      have hPw := fun w hR => power_any rd G k hst w hR
      have hgp := good_pass hgood
      have hpfs := pass_fs k
      obtain ⟨P, HPe⟩ : ∃ P, Hid (passK k = P) := ⟨_, rfl⟩
      rw [HPe.out] at hPw hgp hpfs ⊢
      obtain ⟨en, k1⟩ := P
      dsimp only at hPw hgp hpfs ⊢
      have hproom : k1.room = k.room := by have h := HPe.out; unfold passK at h; split at h <;> (cases h; rfl)
      have hYk : ∀ (S : Nat → Prop) w', Keep S w w' → (∀ i, S i → G i ∨ w.heap.size ≤ i) → Rd w' a n c ys := fun S w' hk hS => ⟨hY.len, hY.cap, hY.most, hY.nil, hY.bytes, fun ad ha j hj => hk.cell (hY.cells ad ha j hj) (fun h => by
        have hlt := World.block_lt_of_cell? w _ (hY.cells ad ha j hj)
        have e : (ad.add j).block = ad.block := by unfold Addr.add; split <;> rfl
        rcases hS _ h with h | h
        · rw [e] at h; exact hYG ad ha h
        · omega)⟩
      clear ep
      go_enter Tryz.func18, Tryz.ntmps18
      go_upto_region 4 with (first
        | (go_at_call 55; refine hF.mono ?_; rintro e w1 ⟨rfl, rfl⟩))
      refine wp_region_lx (fun w' => w' = w1.drew) [] 10 (by kernel_rfl) (by kernel_rfl) ?_
      have hbX : Below w1.heap.size w1 w1.drew := (Below.refl _ _).drew
      have hRX := hR.below hbX
      have p1 : w1.drew.cell? ⟨rd, 1, none⟩ = some (.int .i64 (k.room : Int)) := hq1
      clear hq1 hF
      generalize w1.drew = X at *
      have HS0 : X = X := rfl
      refine lx_rd 0 ?vga0 (by kernel_rfl) (fun _ _ d _ _ h => by cases d <;> exact h) (by kernel_rfl) HS0 rfl rfl rfl (fun w' hS => ?hga0) ?_
      case hga0 => first | (go_simp; rfl) | go_simp
      simp only [List.setIfInBounds_toArray, List.set_cons_zero, List.set_cons_succ]
      refine lx_rd 1 (.int .i64 n) (by kernel_rfl) (fun _ _ d _ _ h => by cases d <;> exact h) (by kernel_rfl) HS0 rfl rfl rfl (fun w' hS => ?hga1) ?_
      case hga1 => subst hS; first | (go_simp; rfl) | go_simp
      simp only [List.setIfInBounds_toArray, List.set_cons_zero, List.set_cons_succ]
      refine lx_rd 2 ?vga2 (by kernel_rfl) (fun _ _ d _ _ h => by cases d <;> exact h) (by kernel_rfl) HS0 rfl rfl rfl (fun w' hS => ?hga2) ?_
      case hga2 => first | (go_simp; rfl) | go_simp
      simp only [List.setIfInBounds_toArray, List.set_cons_zero, List.set_cons_succ]
      refine lx_rd 3 ?vga3 (by kernel_rfl) (fun _ _ d _ _ h => by cases d <;> exact h) (by kernel_rfl) HS0 rfl rfl rfl (fun w' hS => ?hga3) ?_
      case hga3 => first | (go_simp; rfl) | go_simp
      simp only [List.setIfInBounds_toArray, List.set_cons_zero, List.set_cons_succ]
      refine lx_rd 4 ?vga4 (by kernel_rfl) (fun _ _ d _ _ h => by cases d <;> exact h) (by kernel_rfl) HS0 rfl rfl rfl (fun w' hS => ?hga4) ?_
      case hga4 => first | (go_simp; rfl) | go_simp
      simp only [List.setIfInBounds_toArray, List.set_cons_zero, List.set_cons_succ]
      refine lx_rd 5 (.int .i64 k.room) (by kernel_rfl) (fun _ _ d _ _ h => by cases d <;> exact h) (by kernel_rfl) HS0 rfl rfl rfl (fun w' hS => ?hga5) ?_
      case hga5 => subst hS; first | (go_simp; rfl) | go_simp
      simp only [List.setIfInBounds_toArray, List.set_cons_zero, List.set_cons_succ]
      refine lx_rd 6 ?vga6 (by kernel_rfl) (fun _ _ d _ _ h => by cases d <;> exact h) (by kernel_rfl) HS0 rfl rfl rfl (fun w' hS => ?hga6) ?_
      case hga6 => first | (go_simp; rfl) | go_simp
      simp only [List.setIfInBounds_toArray, List.set_cons_zero, List.set_cons_succ]
      refine lx_one 7 (by kernel_rfl) (stepT_call 44 ?ga7 rfl rfl rfl ?gr7 ?_)
      case gr7 => first | (go_simp; rfl) | go_simp
      refine (hU _ hRX).mono ?_
      rintro e w4 ⟨rfl, hw4⟩
      replace hw4 := hw4.symm
      subst hw4
      refine ⟨_, rfl, fun _ => rfl, ?_⟩
      simp only [List.setIfInBounds_toArray, List.set_cons_zero, List.set_cons_succ]
      refine lx_rd 8 (.int .i64 ((k.room : Int) - used k.fs)) (by kernel_rfl) (fun _ _ d _ _ h => by cases d <;> exact h) (by kernel_rfl) HS0 rfl rfl rfl (fun w' hS => ?hgb8) ?_
      case hgb8 => first | (go_simp; rfl) | go_simp
      simp only [List.setIfInBounds_toArray, List.set_cons_zero, List.set_cons_succ]
      refine lx_rd 9 (.bool false) (by kernel_rfl) (fun _ _ d _ _ h => by cases d <;> exact h) (by kernel_rfl) HS0 rfl rfl rfl (fun w' hS => ?hgb9) ?_
      case hgb9 => first | (go_simp; rfl) | go_simp
      simp only [List.setIfInBounds_toArray, List.set_cons_zero, List.set_cons_succ]
      refine lx_nil (by kernel_rfl) ?_
      replace hPw := hPw X hRX
      have hus := hgood.used
      clear HS0 p1 hw1 hlen1 hU HPe
      go_upto_region 7 with (first
        | (go_at_call 56; refine hPw.mono ?_; rintro e w2 ⟨rfl, G2, hR2, hk2, hG2⟩))
      have hk2' : Keep G w1 w2 := (Keep.ofBelow hbX).trans hk2
      have hG2' : ∀ i, G2 i → G i ∨ w1.heap.size ≤ i := fun i hi => (hG2 i hi).imp id (fun h => Nat.le_trans hbX.size h)
      have hA := fun w G k hR => at_any rd G k s w hR
      cases hlk : look k.fs s with
      | none =>
        have HLK : Hid (look k.fs s = none) := hlk
        have hlk1 : look k1.fs s = none := by rw [hpfs]; exact hlk
        have hA1 := hA w2 G2 k1 hR2
        rw [ixL_none hlk1] at hA1
        have hu0 := used_put k.fs hgood.rise s ⟨[], 0⟩
        have hgK : ({ k1 with fs := putL k1.fs s ⟨[], 0⟩ } : Dk).Good := good_put hgp hnm (Nat.le_refl _) Bd.nil (by rw [hpfs] ; rw [hlk] at hu0 ; have h1 := hgp.used ; rw [hpfs] at h1 ; have h2 : lenO none = 0 := rfl ; rw [h2] at hu0 ; have h3 : ([] : List Int).length = 0 := rfl ; rw [h3] at hu0 ; omega)
        have hPt := refPut_any rd G2 k1 s hlk1 ⟨[], 0⟩ none 0 0 (by rw [hpfs]; omega) w2 hR2 hgK ⟨⟨rfl, Or.inl ⟨rfl, rfl⟩⟩, fun g hg => by cases hg⟩
        obtain ⟨K2, hK2⟩ : ∃ K2 : Dk, K2 = { k1 with fs := putL k1.fs s ⟨[], 0⟩ } := ⟨_, rfl⟩
        rw [← hK2] at hPt
        have hrise1 : Rise k1.fs := by rw [hpfs]; exact hgood.rise
        have hlk2 : look K2.fs s = some ⟨[], 0⟩ := by rw [hK2]; show look (putL k1.fs s ⟨[], 0⟩) s = _; rw [look_put _ hrise1, if_pos rfl]
        obtain ⟨j, hj, hix0, hjl⟩ := ixL_some hlk2 0
        rw [Nat.zero_add] at hj
        have hup := used_put k.fs hgood.rise s ⟨[] ++ ys, 0⟩
        rw [hlk] at hup
        have hfin : ({ K2 with fs := putL K2.fs s ⟨(⟨[], 0⟩ : Fle).b ++ ys, (⟨[], 0⟩ : Fle).safe⟩ } : Dk) = { k1 with fs := putL k.fs s ⟨((none : Option Fle).map Fle.b).getD [] ++ ys, ((none : Option Fle).map Fle.safe).getD 0⟩ } := by
          rw [hK2]
          dsimp only
          rw [put_put _ hrise1, hpfs]
          rfl
        have hgN : ({ K2 with fs := putL K2.fs s ⟨(⟨[], 0⟩ : Fle).b ++ ys, (⟨[], 0⟩ : Fle).safe⟩ } : Dk).Good := by
          rw [hfin]
          have h := good_put (f := ⟨[] ++ ys, 0⟩) hgp hnm (Nat.zero_le _) hY.bytes (by
            rw [hpfs]
            have h2 : lenO none = 0 := rfl
            have h3 : (⟨[] ++ ys, 0⟩ : Fle).b.length = n := hY.len
            have h4 := hproom
            rw [h2, h3] at hup
            omega)
          rw [hpfs] at h
          exact h
        have hbd : Bd (⟨[], 0⟩ : Fle).b := Bd.nil
        have hfle : (⟨[], 0⟩ : Fle).b.length ≤ 16777216 := Nat.zero_le _
        obtain ⟨f, hfe⟩ : ∃ f : Fle, (⟨[], 0⟩ : Fle) = f := ⟨_, rfl⟩
        rw [hfe] at hfin hgN hbd hfle hix0
        have hix : Hid (K2.fs[j]? = some (s, f)) := hix0
        obtain ⟨N, HN⟩ : ∃ N, Hid (K2.fs.length = N) := ⟨_, rfl⟩
        rw [HN.out] at hjl
        have hA2 := fun w G hR => hA w G K2 hR
        rw [hj] at hA2
        clear hlk hlk1 hlk2 hix0 hj hup hu0 hA hgK hfe hK2
        go_upto_region 8 with (first
          | (go_at_call 57; refine hA1.mono ?_; rintro e w3 ⟨rfl, hw3⟩; replace hw3 := hw3.symm; subst hw3))
        go_upto_region 9 with (first
          | (go_at_call 58; refine hPt.mono ?_; rintro e V ⟨rfl, GV, hRV, hkV0, hGV0⟩))
        replace hA2 := hA2 V GV hRV
        have hkV : Keep G w1 V := hk2'.andThen hkV0 (fun i hi h => (hG2' i h).elim id (fun h => absurd h (by omega)))
        have hGV : ∀ i, GV i → G i ∨ w1.heap.size ≤ i := fun i hi => (hGV0 i hi).elim (hG2' i) (fun h => Or.inr (Nat.le_trans hk2'.size h))
        have hYV := hYk G V hkV (fun i h => Or.inl h)
        clear hA1 hPt hR2 hk2 hG2 hkV0 hGV0 hRX
        go_upto_region 10 with (first
          | (go_at_call 57; refine hA2.mono ?_; rintro e w3 ⟨rfl, hw3⟩; replace hw3 := hw3.symm; subst hw3))
        have hjN0 : (0 : Int) ≤ (j : Int) := by omega
        have hjN : (j : Int) < (N : Int) := by omega
        refine wp_region_lx (fun w' => Below V.drew.heap.size V.drew w') [19] 20 (by kernel_rfl) (by kernel_rfl) ?_
        have hVX : Below V.heap.size V V.drew := (Below.refl _ _).drew
        have hRX := hRV.below hVX
        have hYX := hYV.carry (Nat.le_refl _) hVX
        obtain ⟨g0, cap0, q0, hcap0, hcB0⟩ : ∃ g cap, V.drew.cell? ⟨rd, 0, none⟩ = some (.slice (some ⟨g, 0, none⟩) N cap) ∧ N ≤ cap ∧ ∃ aj cj, V.drew.cell? ⟨g, j * 3 + 1, none⟩ = some (.slice aj f.b.length cj) ∧ Rd V.drew aj f.b.length cj f.b := by
          obtain ⟨⟨v, sl, hblk, hrow, hvG, hlies, _⟩, _, _, _⟩ := hRX
          obtain ⟨g, cap, e, hcap, _, hcs⟩ := row3 hrow (by rw [HN.out]; omega)
          subst e
          refine ⟨g, cap, by rw [cell_of_block hblk, ← HN.out]; rfl, by rw [← HN.out]; exact hcap, ?_⟩
          have hl := (hlies (s, f) (List.mem_of_getElem? hix.out)).1
          obtain ⟨aj, cj, ev, _⟩ := Rd.ofRowE hl
          have hc := (hcs j (s, f) hix.out).2.1
          rw [ev] at hc hl
          exact ⟨aj, cj, hc, Rd.ofRow hl hbd⟩
        obtain ⟨aj, cj, q1, hRj⟩ := hcB0
        obtain ⟨ln, HLn⟩ : ∃ ln, Hid (f.b.length = ln) := ⟨_, rfl⟩
        rw [HLn.out] at q1 hRj hfle
        have hcF : ∀ w', Below V.drew.heap.size V.drew w' → w'.cell? ⟨rd, 0, none⟩ = some (.slice (some ⟨g0, 0, none⟩) N cap0) := fun w' hb => (hb.cell (p := ⟨rd, 0, none⟩) (World.block_lt_of_cell? V _ q0)).trans q0
        have hcB : ∀ w', Below V.drew.heap.size V.drew w' → w'.cell? ⟨g0, j * 3 + 1, none⟩ = some (.slice aj ln cj) := fun w' hb => (hb.cell (p := ⟨g0, j * 3 + 1, none⟩) (World.block_lt_of_cell? V _ q1)).trans q1
        clear q0 q1 hRV hYV
        generalize V.drew = X at *
        have HSX : Below X.heap.size X X := Below.refl _ _
        refine lx_rd 0 ?vna0 (by kernel_rfl) (fun _ _ d _ _ h => by cases d <;> exact h) (by kernel_rfl) HSX rfl rfl rfl (fun w' hS => ?hna0) ?_
        case hna0 => first | (go_simp; rfl) | go_simp
        simp only [List.setIfInBounds_toArray, List.set_cons_zero, List.set_cons_succ]
        refine lx_rd 1 ?vna1 (by kernel_rfl) (fun _ _ d _ _ h => by cases d <;> exact h) (by kernel_rfl) HSX rfl rfl rfl (fun w' hS => ?hna1) ?_
        case hna1 => first | (go_simp; rfl) | go_simp
        simp only [List.setIfInBounds_toArray, List.set_cons_zero, List.set_cons_succ]
        refine lx_rd 2 ?vna2 (by kernel_rfl) (fun _ _ d _ _ h => by cases d <;> exact h) (by kernel_rfl) HSX rfl rfl rfl (fun w' hS => ?hna2) ?_
        case hna2 => first | (go_simp; rfl) | go_simp
        simp only [List.setIfInBounds_toArray, List.set_cons_zero, List.set_cons_succ]
        refine lx_rd 3 (.slice (some ⟨g0, 0, none⟩) N cap0) (by kernel_rfl) (fun _ _ d _ _ h => by cases d <;> exact h) (by kernel_rfl) HSX rfl rfl rfl (fun w' hS => ?hna3) ?_
        case hna3 => have q := hcF _ hS; first | (go_simp; rfl) | go_simp
        simp only [List.setIfInBounds_toArray, List.set_cons_zero, List.set_cons_succ]
        refine lx_rd 4 ?vna4 (by kernel_rfl) (fun _ _ d _ _ h => by cases d <;> exact h) (by kernel_rfl) HSX rfl rfl rfl (fun w' hS => ?hna4) ?_
        case hna4 => first | (go_simp; rfl) | go_simp
        simp only [List.setIfInBounds_toArray, List.set_cons_zero, List.set_cons_succ]
        refine lx_rd 6 ?vna6 (by kernel_rfl) (fun _ _ d _ _ h => by cases d <;> exact h) (by kernel_rfl) HSX rfl rfl rfl (fun w' hS => ?hna6) ?_
        case hna6 => first | (go_simp; rfl) | go_simp
        simp only [List.setIfInBounds_toArray, List.set_cons_zero, List.set_cons_succ]
        refine lx_rd 7 ?vna7 (by kernel_rfl) (fun _ _ d _ _ h => by cases d <;> exact h) (by kernel_rfl) HSX rfl rfl rfl (fun w' hS => ?hna7) ?_
        case hna7 => first | (go_simp; rfl) | go_simp
        simp only [List.setIfInBounds_toArray, List.set_cons_zero, List.set_cons_succ]
        refine lx_rd 8 ?vna8 (by kernel_rfl) (fun _ _ d _ _ h => by cases d <;> exact h) (by kernel_rfl) HSX rfl rfl rfl (fun w' hS => ?hna8) ?_
        case hna8 => first | (go_simp; rfl) | go_simp
        simp only [List.setIfInBounds_toArray, List.set_cons_zero, List.set_cons_succ]
        refine lx_rd 9 (.slice (some ⟨g0, 0, none⟩) N cap0) (by kernel_rfl) (fun _ _ d _ _ h => by cases d <;> exact h) (by kernel_rfl) HSX rfl rfl rfl (fun w' hS => ?hna9) ?_
        case hna9 => have q := hcF _ hS; first | (go_simp; rfl) | go_simp
        simp only [List.setIfInBounds_toArray, List.set_cons_zero, List.set_cons_succ]
        refine lx_rd 10 ?vna10 (by kernel_rfl) (fun _ _ d _ _ h => by cases d <;> exact h) (by kernel_rfl) HSX rfl rfl rfl (fun w' hS => ?hna10) ?_
        case hna10 => first | (go_simp; rfl) | go_simp
        simp only [List.setIfInBounds_toArray, List.set_cons_zero, List.set_cons_succ]
        refine lx_rd 11 (.pointer (some ⟨g0, j * 3, none⟩)) (by kernel_rfl) (fun _ _ d _ _ h => by cases d <;> exact h) (by kernel_rfl) HSX rfl rfl rfl (fun w' hS => ?hna11) ?_
        case hna11 => first | (go_simp; rfl) | go_simp
        simp only [List.setIfInBounds_toArray, List.set_cons_zero, List.set_cons_succ]
        refine lx_rd 12 (.pointer (some ⟨g0, j * 3 + 1, none⟩)) (by kernel_rfl) (fun _ _ d _ _ h => by cases d <;> exact h) (by kernel_rfl) HSX rfl rfl rfl (fun w' hS => ?hna12) ?_
        case hna12 => first | (go_simp; rfl) | go_simp
        simp only [List.setIfInBounds_toArray, List.set_cons_zero, List.set_cons_succ]
        refine lx_rd 13 (.slice aj ln cj) (by kernel_rfl) (fun _ _ d _ _ h => by cases d <;> exact h) (by kernel_rfl) HSX rfl rfl rfl (fun w' hS => ?hna13) ?_
        case hna13 => have q := hcB _ hS; first | (go_simp; rfl) | go_simp
        simp only [List.setIfInBounds_toArray, List.set_cons_zero, List.set_cons_succ]
        refine lx_rd 15 ?vna15 (by kernel_rfl) (fun _ _ d _ _ h => by cases d <;> exact h) (by kernel_rfl) HSX rfl rfl rfl (fun w' hS => ?hna15) ?_
        case hna15 => first | (go_simp; rfl) | go_simp
        simp only [List.setIfInBounds_toArray, List.set_cons_zero, List.set_cons_succ]
        have hX0 : Below X.heap.size X (X.alloc (.cells #[] 5)) := (Below.refl _ _).alloc (Nat.le_refl _) _
        have hemp : (X.alloc (.cells #[] 5)).ownsRow X.heap.size 5 1 (.slice (some ⟨X.heap.size, 0, none⟩) 0 0) 0 (bc []) := World.ownsRow_made X #[] 0 (Nat.le_refl _) (by unfold maxLen; omega) rfl
        refine lx_one 5 (by kernel_rfl) (stepT_val (w' := X.alloc (.cells #[] 5)) (.slice (some ⟨X.heap.size, 0, none⟩) 0 0) rfl rfl rfl ?r5n (fun _ => hX0) ?_)
        case r5n => first | (go_simp; rfl) | go_simp
        simp only [List.setIfInBounds_toArray, List.set_cons_zero, List.set_cons_succ]
        obtain ⟨v5, w5, hrun5, o5, hb5⟩ := run_appJ 29 hemp (hRj.carry (Nat.le_refl _) hX0) (by omega) hX0.size
        have hb5' := hX0.trans hb5
        refine lx_one 14 (by kernel_rfl) (stepT_val (w' := w5) v5 rfl rfl rfl (exec_appJ rfl rfl rfl hrun5) (fun _ => hb5') ?_)
        simp only [List.setIfInBounds_toArray, List.set_cons_zero, List.set_cons_succ]
        rw [Nat.zero_add, List.nil_append] at o5
        obtain ⟨v6, w6, hrun6, o6, hb6⟩ := run_appJ 29 o5 (hYX.carry (Nat.le_refl _) hb5') (by omega) hb5'.size
        have hb6' := hb5'.trans hb6
        refine lx_one 16 (by kernel_rfl) (stepT_val (w' := w6) v6 rfl rfl rfl (exec_appJ rfl rfl rfl hrun6) (fun _ => hb6') ?_)
        simp only [List.setIfInBounds_toArray, List.set_cons_zero, List.set_cons_succ]
        obtain ⟨a6, c6, rfl, hn6⟩ := Rd.ofRowE o6
        have hbl : (f.b ++ ys).length = ln + n := by rw [List.length_append, HLn.out, hY.len]
        have o6' : w6.ownsRow X.heap.size 5 1 (.slice a6 (ln + n) c6) (f.b ++ ys).length (bc (f.b ++ ys)) := by rw [hbl]; exact o6
        obtain ⟨g, cap, r0, hcap, ⟨u, r1⟩, r2, hRp⟩ := hRX.setB hb6' hix.out o6' hgN
        have hgg : g = g0 := by have h := hcF _ hb6'; rw [r0] at h; injection h with h; injection h with h _ _; injection h with h; injection h
        subst hgg
        refine lx_one 17 (by kernel_rfl) (stepT_val (w' := w6) (.pointer (some ⟨g, j * 3, none⟩)) rfl rfl rfl ?r17n (fun _ => hb6') ?_)
        case r17n => first | (go_simp; rfl) | go_simp
        simp only [List.setIfInBounds_toArray, List.set_cons_zero, List.set_cons_succ]
        refine lx_one 18 (by kernel_rfl) (stepT_val (w' := w6) (.pointer (some ⟨g, j * 3 + 1, none⟩)) rfl rfl rfl ?r18n (fun _ => hb6') ?_)
        case r18n => first | (go_simp; rfl) | go_simp
        simp only [List.setIfInBounds_toArray, List.set_cons_zero, List.set_cons_succ]
        refine lx_one 19 (by kernel_rfl) (stepT_store (w' := w6.setCell ⟨g, j * 3 + 1, none⟩ (.slice a6 (ln + n) c6)) rfl rfl rfl ?r19n (fun h => by cases h) ?_)
        case r19n => first | (go_simp; rfl) | go_simp
        refine lx_nil (by kernel_rfl) ?_
        go_wp2
        go_ret
        refine ⟨rfl, ?_⟩
        rw [hfin] at hRp
        rw [HLK.out]
        exact Rp.next hkV hGV (Rp.next (Keep.ofBelow hVX) (fun i hi => Or.inl hi) hRp)
      | some f =>
        have HLK : Hid (look k.fs s = some f) := hlk
        have hlk1 : look k1.fs s = some f := by rw [hpfs]; exact hlk
        obtain ⟨j, hj, hix0, hjl⟩ := ixL_some hlk1 0
        rw [Nat.zero_add] at hj
        have hA1 := hA w2 G2 k1 hR2
        rw [hj] at hA1
        have hjn : ¬ (j : Int) < 0 := by omega
        obtain ⟨_, hsf, hbd⟩ := look_good hgood hlk
        have hup := used_put k.fs hgood.rise s ⟨f.b ++ ys, f.safe⟩
        rw [hlk] at hup
        have hfin : ({ k1 with fs := putL k1.fs s ⟨f.b ++ ys, f.safe⟩ } : Dk) = { k1 with fs := putL k.fs s ⟨((some f).map Fle.b).getD [] ++ ys, ((some f).map Fle.safe).getD 0⟩ } := by
          rw [hpfs]
          rfl
        have hgN : ({ k1 with fs := putL k1.fs s ⟨f.b ++ ys, f.safe⟩ } : Dk).Good := good_put hgp hnm (by show f.safe ≤ (f.b ++ ys).length; rw [List.length_append]; omega) (hbd.append hY.bytes) (by
          rw [hpfs]
          have h2 : lenO (some f) = f.b.length := rfl
          have h3 : (⟨f.b ++ ys, f.safe⟩ : Fle).b.length = f.b.length + n := by show (f.b ++ ys).length = _; rw [List.length_append, hY.len]
          have h4 := hproom
          rw [h2, h3] at hup
          omega)
        have hfle : f.b.length ≤ 16777216 := Nat.le_trans (used_mem (look_mem hlk)) (Nat.le_trans hgood.used hgood.room)
        have hix : Hid (k1.fs[j]? = some (s, f)) := hix0
        obtain ⟨N, HN⟩ : ∃ N, Hid (k1.fs.length = N) := ⟨_, rfl⟩
        rw [HN.out] at hjl
        have hkV : Keep G w1 w2 := hk2'
        have hGV := hG2'
        have hYV := hYk G w2 hkV (fun i h => Or.inl h)
        have hRV := hR2
        clear hlk hlk1 hix0 hj hup hA hR2 hk2 hG2 hRX
        have tk1 : True := trivial
        have hA2 := hA1
        go_upto_region 10 with (first
          | (go_at_call 57; clear tk1; refine hA1.mono ?_; clear hA1; rintro e w3 ⟨rfl, hw3⟩; replace hw3 := hw3.symm; subst hw3)
          | (go_at_call 57; refine hA2.mono ?_; rintro e w3 ⟨rfl, hw3⟩; replace hw3 := hw3.symm; subst hw3))
        have hjN0 : (0 : Int) ≤ (j : Int) := by omega
        have hjN : (j : Int) < (N : Int) := by omega
        refine wp_region_lx (fun w' => Below w2.drew.heap.size w2.drew w') [19] 20 (by kernel_rfl) (by kernel_rfl) ?_
        have hVX : Below w2.heap.size w2 w2.drew := (Below.refl _ _).drew
        have hRX := hRV.below hVX
        have hYX := hYV.carry (Nat.le_refl _) hVX
        obtain ⟨g0, cap0, q0, hcap0, hcB0⟩ : ∃ g cap, w2.drew.cell? ⟨rd, 0, none⟩ = some (.slice (some ⟨g, 0, none⟩) N cap) ∧ N ≤ cap ∧ ∃ aj cj, w2.drew.cell? ⟨g, j * 3 + 1, none⟩ = some (.slice aj f.b.length cj) ∧ Rd w2.drew aj f.b.length cj f.b := by
          obtain ⟨⟨v, sl, hblk, hrow, hvG, hlies, _⟩, _, _, _⟩ := hRX
          obtain ⟨g, cap, e, hcap, _, hcs⟩ := row3 hrow (by rw [HN.out]; omega)
          subst e
          refine ⟨g, cap, by rw [cell_of_block hblk, ← HN.out]; rfl, by rw [← HN.out]; exact hcap, ?_⟩
          have hl := (hlies (s, f) (List.mem_of_getElem? hix.out)).1
          obtain ⟨aj, cj, ev, _⟩ := Rd.ofRowE hl
          have hc := (hcs j (s, f) hix.out).2.1
          rw [ev] at hc hl
          exact ⟨aj, cj, hc, Rd.ofRow hl hbd⟩
        obtain ⟨aj, cj, q1, hRj⟩ := hcB0
        obtain ⟨ln, HLn⟩ : ∃ ln, Hid (f.b.length = ln) := ⟨_, rfl⟩
        rw [HLn.out] at q1 hRj hfle
        have hcF : ∀ w', Below w2.drew.heap.size w2.drew w' → w'.cell? ⟨rd, 0, none⟩ = some (.slice (some ⟨g0, 0, none⟩) N cap0) := fun w' hb => (hb.cell (p := ⟨rd, 0, none⟩) (World.block_lt_of_cell? w2 _ q0)).trans q0
        have hcB : ∀ w', Below w2.drew.heap.size w2.drew w' → w'.cell? ⟨g0, j * 3 + 1, none⟩ = some (.slice aj ln cj) := fun w' hb => (hb.cell (p := ⟨g0, j * 3 + 1, none⟩) (World.block_lt_of_cell? w2 _ q1)).trans q1
        clear q0 q1 hRV hYV
        generalize w2.drew = X at *
        have HSX : Below X.heap.size X X := Below.refl _ _
        refine lx_rd 0 ?vma0 (by kernel_rfl) (fun _ _ d _ _ h => by cases d <;> exact h) (by kernel_rfl) HSX rfl rfl rfl (fun w' hS => ?hma0) ?_
        case hma0 => first | (go_simp; rfl) | go_simp
        simp only [List.setIfInBounds_toArray, List.set_cons_zero, List.set_cons_succ]
        refine lx_rd 1 ?vma1 (by kernel_rfl) (fun _ _ d _ _ h => by cases d <;> exact h) (by kernel_rfl) HSX rfl rfl rfl (fun w' hS => ?hma1) ?_
        case hma1 => first | (go_simp; rfl) | go_simp
        simp only [List.setIfInBounds_toArray, List.set_cons_zero, List.set_cons_succ]
        refine lx_rd 2 ?vma2 (by kernel_rfl) (fun _ _ d _ _ h => by cases d <;> exact h) (by kernel_rfl) HSX rfl rfl rfl (fun w' hS => ?hma2) ?_
        case hma2 => first | (go_simp; rfl) | go_simp
        simp only [List.setIfInBounds_toArray, List.set_cons_zero, List.set_cons_succ]
        refine lx_rd 3 (.slice (some ⟨g0, 0, none⟩) N cap0) (by kernel_rfl) (fun _ _ d _ _ h => by cases d <;> exact h) (by kernel_rfl) HSX rfl rfl rfl (fun w' hS => ?hma3) ?_
        case hma3 => have q := hcF _ hS; first | (go_simp; rfl) | go_simp
        simp only [List.setIfInBounds_toArray, List.set_cons_zero, List.set_cons_succ]
        refine lx_rd 4 ?vma4 (by kernel_rfl) (fun _ _ d _ _ h => by cases d <;> exact h) (by kernel_rfl) HSX rfl rfl rfl (fun w' hS => ?hma4) ?_
        case hma4 => first | (go_simp; rfl) | go_simp
        simp only [List.setIfInBounds_toArray, List.set_cons_zero, List.set_cons_succ]
        refine lx_rd 6 ?vma6 (by kernel_rfl) (fun _ _ d _ _ h => by cases d <;> exact h) (by kernel_rfl) HSX rfl rfl rfl (fun w' hS => ?hma6) ?_
        case hma6 => first | (go_simp; rfl) | go_simp
        simp only [List.setIfInBounds_toArray, List.set_cons_zero, List.set_cons_succ]
        refine lx_rd 7 ?vma7 (by kernel_rfl) (fun _ _ d _ _ h => by cases d <;> exact h) (by kernel_rfl) HSX rfl rfl rfl (fun w' hS => ?hma7) ?_
        case hma7 => first | (go_simp; rfl) | go_simp
        simp only [List.setIfInBounds_toArray, List.set_cons_zero, List.set_cons_succ]
        refine lx_rd 8 ?vma8 (by kernel_rfl) (fun _ _ d _ _ h => by cases d <;> exact h) (by kernel_rfl) HSX rfl rfl rfl (fun w' hS => ?hma8) ?_
        case hma8 => first | (go_simp; rfl) | go_simp
        simp only [List.setIfInBounds_toArray, List.set_cons_zero, List.set_cons_succ]
        refine lx_rd 9 (.slice (some ⟨g0, 0, none⟩) N cap0) (by kernel_rfl) (fun _ _ d _ _ h => by cases d <;> exact h) (by kernel_rfl) HSX rfl rfl rfl (fun w' hS => ?hma9) ?_
        case hma9 => have q := hcF _ hS; first | (go_simp; rfl) | go_simp
        simp only [List.setIfInBounds_toArray, List.set_cons_zero, List.set_cons_succ]
        refine lx_rd 10 ?vma10 (by kernel_rfl) (fun _ _ d _ _ h => by cases d <;> exact h) (by kernel_rfl) HSX rfl rfl rfl (fun w' hS => ?hma10) ?_
        case hma10 => first | (go_simp; rfl) | go_simp
        simp only [List.setIfInBounds_toArray, List.set_cons_zero, List.set_cons_succ]
        refine lx_rd 11 (.pointer (some ⟨g0, j * 3, none⟩)) (by kernel_rfl) (fun _ _ d _ _ h => by cases d <;> exact h) (by kernel_rfl) HSX rfl rfl rfl (fun w' hS => ?hma11) ?_
        case hma11 => first | (go_simp; rfl) | go_simp
        simp only [List.setIfInBounds_toArray, List.set_cons_zero, List.set_cons_succ]
        refine lx_rd 12 (.pointer (some ⟨g0, j * 3 + 1, none⟩)) (by kernel_rfl) (fun _ _ d _ _ h => by cases d <;> exact h) (by kernel_rfl) HSX rfl rfl rfl (fun w' hS => ?hma12) ?_
        case hma12 => first | (go_simp; rfl) | go_simp
        simp only [List.setIfInBounds_toArray, List.set_cons_zero, List.set_cons_succ]
        refine lx_rd 13 (.slice aj ln cj) (by kernel_rfl) (fun _ _ d _ _ h => by cases d <;> exact h) (by kernel_rfl) HSX rfl rfl rfl (fun w' hS => ?hma13) ?_
        case hma13 => have q := hcB _ hS; first | (go_simp; rfl) | go_simp
        simp only [List.setIfInBounds_toArray, List.set_cons_zero, List.set_cons_succ]
        refine lx_rd 15 ?vma15 (by kernel_rfl) (fun _ _ d _ _ h => by cases d <;> exact h) (by kernel_rfl) HSX rfl rfl rfl (fun w' hS => ?hma15) ?_
        case hma15 => first | (go_simp; rfl) | go_simp
        simp only [List.setIfInBounds_toArray, List.set_cons_zero, List.set_cons_succ]
        have hX0 : Below X.heap.size X (X.alloc (.cells #[] 5)) := (Below.refl _ _).alloc (Nat.le_refl _) _
        have hemp : (X.alloc (.cells #[] 5)).ownsRow X.heap.size 5 1 (.slice (some ⟨X.heap.size, 0, none⟩) 0 0) 0 (bc []) := World.ownsRow_made X #[] 0 (Nat.le_refl _) (by unfold maxLen; omega) rfl
        refine lx_one 5 (by kernel_rfl) (stepT_val (w' := X.alloc (.cells #[] 5)) (.slice (some ⟨X.heap.size, 0, none⟩) 0 0) rfl rfl rfl ?r5m (fun _ => hX0) ?_)
        case r5m => first | (go_simp; rfl) | go_simp
        simp only [List.setIfInBounds_toArray, List.set_cons_zero, List.set_cons_succ]
        obtain ⟨v5, w5, hrun5, o5, hb5⟩ := run_appJ 29 hemp (hRj.carry (Nat.le_refl _) hX0) (by omega) hX0.size
        have hb5' := hX0.trans hb5
        refine lx_one 14 (by kernel_rfl) (stepT_val (w' := w5) v5 rfl rfl rfl (exec_appJ rfl rfl rfl hrun5) (fun _ => hb5') ?_)
        simp only [List.setIfInBounds_toArray, List.set_cons_zero, List.set_cons_succ]
        rw [Nat.zero_add, List.nil_append] at o5
        obtain ⟨v6, w6, hrun6, o6, hb6⟩ := run_appJ 29 o5 (hYX.carry (Nat.le_refl _) hb5') (by omega) hb5'.size
        have hb6' := hb5'.trans hb6
        refine lx_one 16 (by kernel_rfl) (stepT_val (w' := w6) v6 rfl rfl rfl (exec_appJ rfl rfl rfl hrun6) (fun _ => hb6') ?_)
        simp only [List.setIfInBounds_toArray, List.set_cons_zero, List.set_cons_succ]
        obtain ⟨a6, c6, rfl, hn6⟩ := Rd.ofRowE o6
        have hbl : (f.b ++ ys).length = ln + n := by rw [List.length_append, HLn.out, hY.len]
        have o6' : w6.ownsRow X.heap.size 5 1 (.slice a6 (ln + n) c6) (f.b ++ ys).length (bc (f.b ++ ys)) := by rw [hbl]; exact o6
        obtain ⟨g, cap, r0, hcap, ⟨u, r1⟩, r2, hRp⟩ := hRX.setB hb6' hix.out o6' hgN
        have hgg : g = g0 := by have h := hcF _ hb6'; rw [r0] at h; injection h with h; injection h with h _ _; injection h with h; injection h
        subst hgg
        refine lx_one 17 (by kernel_rfl) (stepT_val (w' := w6) (.pointer (some ⟨g, j * 3, none⟩)) rfl rfl rfl ?r17m (fun _ => hb6') ?_)
        case r17m => first | (go_simp; rfl) | go_simp
        simp only [List.setIfInBounds_toArray, List.set_cons_zero, List.set_cons_succ]
        refine lx_one 18 (by kernel_rfl) (stepT_val (w' := w6) (.pointer (some ⟨g, j * 3 + 1, none⟩)) rfl rfl rfl ?r18m (fun _ => hb6') ?_)
        case r18m => first | (go_simp; rfl) | go_simp
        simp only [List.setIfInBounds_toArray, List.set_cons_zero, List.set_cons_succ]
        refine lx_one 19 (by kernel_rfl) (stepT_store (w' := w6.setCell ⟨g, j * 3 + 1, none⟩ (.slice a6 (ln + n) c6)) rfl rfl rfl ?r19m (fun h => by cases h) ?_)
        case r19m => first | (go_simp; rfl) | go_simp
        refine lx_nil (by kernel_rfl) ?_
        go_wp2
        go_ret
        refine ⟨rfl, ?_⟩
        rw [hfin] at hRp
        rw [HLK.out]
        exact Rp.next hkV hGV (Rp.next (Keep.ofBelow hVX) (fun i hi => Or.inl hi) hRp)
    · have e : appK k s ys = (8, k) := by
        unfold appK
        rw [on, hnm, hY.len]
        simp [hfit]
      rw [e]
      have hgt : decide ((k.room : Int) - (used k.fs : Int) < (n : Int)) = true := by simp; omega
      go_enter Tryz.func18, Tryz.ntmps18
      go_upto_region 4 with (first
        | (go_at_call 55; refine hF.mono ?_; rintro e w1 ⟨rfl, rfl⟩))
      refine wp_region_lx (fun w' => w' = w1.drew) [] 10 (by kernel_rfl) (by kernel_rfl) ?_
      have hRX := hR.below ((Below.refl _ _).drew)
      have p1 : w1.drew.cell? ⟨rd, 1, none⟩ = some (.int .i64 (k.room : Int)) := hq1
      have hbX : Below w1.heap.size w1 w1.drew := (Below.refl _ _).drew
      clear hq1 hF hfit
      generalize w1.drew = X at *
      have HS0 : X = X := rfl
      refine lx_rd 0 ?va0 (by kernel_rfl) (fun _ _ d _ _ h => by cases d <;> exact h) (by kernel_rfl) HS0 rfl rfl rfl (fun w' hS => ?ha0) ?_
      case ha0 => first | (go_simp; rfl) | go_simp
      simp only [List.setIfInBounds_toArray, List.set_cons_zero, List.set_cons_succ]
      refine lx_rd 1 (.int .i64 n) (by kernel_rfl) (fun _ _ d _ _ h => by cases d <;> exact h) (by kernel_rfl) HS0 rfl rfl rfl (fun w' hS => ?ha1) ?_
      case ha1 => subst hS; first | (go_simp; rfl) | go_simp
      simp only [List.setIfInBounds_toArray, List.set_cons_zero, List.set_cons_succ]
      refine lx_rd 2 ?va2 (by kernel_rfl) (fun _ _ d _ _ h => by cases d <;> exact h) (by kernel_rfl) HS0 rfl rfl rfl (fun w' hS => ?ha2) ?_
      case ha2 => first | (go_simp; rfl) | go_simp
      simp only [List.setIfInBounds_toArray, List.set_cons_zero, List.set_cons_succ]
      refine lx_rd 3 ?va3 (by kernel_rfl) (fun _ _ d _ _ h => by cases d <;> exact h) (by kernel_rfl) HS0 rfl rfl rfl (fun w' hS => ?ha3) ?_
      case ha3 => first | (go_simp; rfl) | go_simp
      simp only [List.setIfInBounds_toArray, List.set_cons_zero, List.set_cons_succ]
      refine lx_rd 4 ?va4 (by kernel_rfl) (fun _ _ d _ _ h => by cases d <;> exact h) (by kernel_rfl) HS0 rfl rfl rfl (fun w' hS => ?ha4) ?_
      case ha4 => first | (go_simp; rfl) | go_simp
      simp only [List.setIfInBounds_toArray, List.set_cons_zero, List.set_cons_succ]
      refine lx_rd 5 (.int .i64 k.room) (by kernel_rfl) (fun _ _ d _ _ h => by cases d <;> exact h) (by kernel_rfl) HS0 rfl rfl rfl (fun w' hS => ?ha5) ?_
      case ha5 => subst hS; first | (go_simp; rfl) | go_simp
      simp only [List.setIfInBounds_toArray, List.set_cons_zero, List.set_cons_succ]
      refine lx_rd 6 ?va6 (by kernel_rfl) (fun _ _ d _ _ h => by cases d <;> exact h) (by kernel_rfl) HS0 rfl rfl rfl (fun w' hS => ?ha6) ?_
      case ha6 => first | (go_simp; rfl) | go_simp
      simp only [List.setIfInBounds_toArray, List.set_cons_zero, List.set_cons_succ]
      refine lx_one 7 (by kernel_rfl) (stepT_call 44 ?a7 rfl rfl rfl ?r7 ?_)
      case r7 => first | (go_simp; rfl) | go_simp
      refine (hU _ hRX).mono ?_
      rintro e w4 ⟨rfl, hw4⟩
      replace hw4 := hw4.symm
      subst hw4
      refine ⟨_, rfl, fun _ => rfl, ?_⟩
      simp only [List.setIfInBounds_toArray, List.set_cons_zero, List.set_cons_succ]
      refine lx_rd 8 (.int .i64 ((k.room : Int) - used k.fs)) (by kernel_rfl) (fun _ _ d _ _ h => by cases d <;> exact h) (by kernel_rfl) HS0 rfl rfl rfl (fun w' hS => ?hb8) ?_
      case hb8 => first | (go_simp; rfl) | go_simp
      simp only [List.setIfInBounds_toArray, List.set_cons_zero, List.set_cons_succ]
      refine lx_rd 9 (.bool true) (by kernel_rfl) (fun _ _ d _ _ h => by cases d <;> exact h) (by kernel_rfl) HS0 rfl rfl rfl (fun w' hS => ?hb9) ?_
      case hb9 => first | (go_simp; rfl) | go_simp
      simp only [List.setIfInBounds_toArray, List.set_cons_zero, List.set_cons_succ]
      refine lx_nil (by kernel_rfl) ?_
      go_wp2
      go_ret
      exact ⟨rfl, Rp.ofBelow hR hbX⟩
  · have e : appK k s ys = (firstK k s false, k) := by
      unfold appK firstK at *
      cases h1 : k.off <;> cases h2 : isNm s <;> simp_all
    rw [e]
    obtain ⟨en, hen⟩ : ∃ en, firstK k s false = en := ⟨_, rfl⟩
    rw [hen] at hF h0 ⊢
    have hne : ((en : Int) != 0) = true := by simp; omega
    clear hen e
    go_enter Tryz.func18, Tryz.ntmps18
    go_wp2_with (first
      | (go_at_call 55; refine hF.mono ?_; rintro e w1 ⟨rfl, rfl⟩))
    go_ret
    exact ⟨rfl, Rp.refl hR⟩

end Go.Proofs.YtikkieaokfailaaGreatDoor
