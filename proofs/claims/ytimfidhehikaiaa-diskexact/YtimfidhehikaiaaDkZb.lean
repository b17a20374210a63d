/- The document's disk: a file's cells stored; Sync. -/
import Derived.Test.YtimfidhehikaiaaDkZa
namespace Go.Proofs.Ytimfidhehikaiaa
open Go.RowKit Go.Joins

/-- The bytes of a file are turned, and then how many of them are safe. -/
theorem RefAt.setBS {w w0 : World} {G : Nat → Prop} {rd : Nat} {k : Dk} {s : Nm} {f : Fle} {j : Nat} {b' : List Int} {v : Value} {n : Nat} (h : RefAt w0 G rd k) (hb : Below w0.heap.size w0 w) (hix : k.fs[j]? = some (s, f))
    (hv : w.ownsRow w0.heap.size 5 1 v b'.length (bc b')) (hg : ({ k with fs := putL k.fs s ⟨b', n⟩ } : Dk).Good) :
    ∃ g cap, w.cell? ⟨rd, 0, none⟩ = some (.slice (some ⟨g, 0, none⟩) k.fs.length cap) ∧ k.fs.length ≤ cap ∧ (∃ u, w.cell? ⟨g, j * 3 + 1, none⟩ = some u) ∧ w.frozen? ⟨g, j * 3 + 1, none⟩ = false ∧ (w.setCell ⟨g, j * 3 + 1, none⟩ v).cell? ⟨rd, 0, none⟩ = some (.slice (some ⟨g, 0, none⟩) k.fs.length cap) ∧ (w.setCell ⟨g, j * 3 + 1, none⟩ v).cell? ⟨g, j * 3 + 1, none⟩ = some v ∧ (w.setCell ⟨g, j * 3 + 1, none⟩ v).cell? ⟨g, j * 3 + 2, none⟩ = some (.int .i64 (f.safe : Int)) ∧ (w.setCell ⟨g, j * 3 + 1, none⟩ v).frozen? ⟨g, j * 3 + 2, none⟩ = false ∧ Rp w0 G rd { k with fs := putL k.fs s ⟨b', n⟩ } ((w.setCell ⟨g, j * 3 + 1, none⟩ v).setCell ⟨g, j * 3 + 2, none⟩ (.int .i64 (n : Int))) := by
  have hjl : j < k.fs.length := (List.getElem?_eq_some_iff.1 hix).1
  have hlt := h.lt
  have hrise := h.good.rise
  obtain ⟨⟨v0, sl, hblk, hrow, hvG, hlies, hslv⟩, hGrd, _, _⟩ := h
  obtain ⟨g, cap, e, hcap, _, hcs⟩ := row3 hrow (by omega)
  subst e
  have hgl := hrow.lt g rfl
  have hblkw := box_below hblk hb
  have hroww := own_keep (S := fun _ => False) hrow (Keep.ofBelow hb) (fun _ _ h => h)
  obtain ⟨cur, hcur⟩ := own_blk hroww (g := g) rfl
  have hgne : g ≠ rd := fun e => by subst e; rw [hblkw] at hcur; cases hcur
  have hcell := (hb.cell (p := ⟨g, j * 3 + 1, none⟩) hgl.2).trans (hcs j (s, f) hix).2.1
  have hkS1 : Keep (fun i => i = g) w (w.setCell ⟨g, j * 3 + 1, none⟩ v) := (Keep.refl (fun i => i = g) w).setCell (p := ⟨g, j * 3 + 1, none⟩) rfl _
  have hrw1 := own_set hroww (i := j * 3 + 1) v
  have hcur1 := block_setCell (i := j * 3 + 1) hcur v
  have hblk1 := box_keep hblkw hkS1 (fun e => hgne e.symm)
  have hel : j * 3 + 2 < (ev sl k.fs).length := by rw [ev_len]; omega
  have c1 := hrw1.cells (g := g) rfl (j * 3 + 1) v (by rw [List.getElem?_set_self (by omega)])
  have c2 := hrw1.cells (g := g) rfl (j * 3 + 2) (.int .i64 (f.safe : Int)) (by rw [List.getElem?_set_ne (by omega)]; exact (ev_get sl k.fs j (s, f) hix).2.2)
  rw [add_flat, Nat.zero_add] at c1 c2
  refine ⟨g, cap, by rw [cell_of_block hblkw]; rfl, hcap, ⟨_, hcell⟩, unfrozen_of_block hcur _, by rw [cell_of_block hblk1]; rfl, c1, c2, unfrozen_of_block hcur1 _, ?_⟩
  obtain ⟨p, q, hl, hp⟩ := split_at hix
  have hr2 : Rise (p ++ (s, f) :: q) := by rw [← hl]; exact hrise
  have hput : putL k.fs s ⟨b', n⟩ = p ++ (s, ⟨b', n⟩) :: q := by rw [hl]; exact put_mid hr2
  have hnp : ∀ x ∈ p, x.1 ≠ s := fun x hx e => by
    have hnd := rise_nodup hr2
    rw [List.map_append, List.map_cons] at hnd
    have := (List.nodup_append.1 hnd).2.2 x.1 (List.mem_map_of_mem hx) s (List.mem_cons_self ..)
    exact this e
  have hnq : ∀ x ∈ q, x.1 ≠ s := fun x hx e => by
    have hnd := rise_nodup hr2
    rw [List.map_append, List.map_cons] at hnd
    have h2 := (List.nodup_cons.1 (List.nodup_append.1 hnd).2.1).1
    exact h2 (List.mem_map.2 ⟨x, hx, e⟩)
  obtain ⟨sl', hsl'⟩ : ∃ sl' : Nm → Value, sl' = fun t => if t = s then v else sl t := ⟨_, rfl⟩
  have hss : sl' s = v := by rw [hsl']; simp
  have hso : ∀ t, t ≠ s → sl' t = sl t := fun t ht => by rw [hsl']; simp [ht]
  have hone : ∀ t, ∃ a n c, sl' t = .slice a n c := fun t => by
    by_cases h : t = s
    · rw [h, hss]
      obtain ⟨a, c, e, _⟩ := Rd.ofRowE hv
      exact ⟨a, _, c, e⟩
    · rw [hso t h]; exact hslv t
  have hkS : Keep (fun i => i = g) w ((w.setCell ⟨g, j * 3 + 1, none⟩ v).setCell ⟨g, j * 3 + 2, none⟩ (.int .i64 (n : Int))) := hkS1.setCell (p := ⟨g, j * 3 + 2, none⟩) rfl _
  have hk0 : Keep (fun i => i = g) w0 ((w.setCell ⟨g, j * 3 + 1, none⟩ v).setCell ⟨g, j * 3 + 2, none⟩ (.int .i64 (n : Int))) := (Keep.ofBelow hb).trans hkS
  have hsz : ((w.setCell ⟨g, j * 3 + 1, none⟩ v).setCell ⟨g, j * 3 + 2, none⟩ (.int .i64 (n : Int))).heap.size = w.heap.size := by simp [World.setCell]
  refine ⟨fun i => G i ∨ (w0.heap.size ≤ i ∧ i < w.heap.size), ⟨⟨.slice (some ⟨g, 0, none⟩) k.fs.length cap, sl', ?_, ?_, ?_, ?_, hone⟩, Or.inl hGrd, ?_, hg⟩, hk0.mono (fun i e => by subst e; exact hvG _ rfl), fun i hi => hi.imp id (fun h => h.1)⟩
  · exact box_keep hblkw hkS (fun e => hgne e.symm)
  · show World.ownsRow _ _ _ _ _ (putL k.fs s ⟨b', n⟩).length (ev sl' (putL k.fs s ⟨b', n⟩))
    have hlen : (putL k.fs s ⟨b', n⟩).length = k.fs.length := by rw [hput, hl]; simp
    rw [hlen, hput, show (p ++ (s, (⟨b', n⟩ : Fle)) :: q) = p ++ (s, ⟨(⟨b', f.safe⟩ : Fle).b, n⟩) :: q from rfl, ← ev_setS sl' p q s ⟨b', f.safe⟩ n, ← ev_setB sl sl' p q s f b' v hss (fun x hx => hso _ (hnp x hx)) (fun x hx => hso _ (hnq x hx)), ← hl, hp]
    exact own_set hrw1 _
  · intro g' hg'
    exact Or.inl (hvG g' hg')
  · intro x hx
    have hm : x ∈ putL k.fs s ⟨b', n⟩ := hx
    rw [hput] at hm
    rcases List.mem_append.1 hm with hx | hx
    · rw [hso _ (hnp x hx)]
      have hin : x ∈ k.fs := by rw [hl]; exact List.mem_append_left _ hx
      refine (hlies x hin).keep hk0 (fun g' hg' e => ?_) (fun _ h => Or.inl h)
      obtain ⟨cur', h2⟩ := own_blk (hlies x hin).1 hg'
      subst e
      obtain ⟨cur2, h3⟩ := own_blk hrow (g := g') rfl
      rw [h3] at h2; cases h2
    · rcases List.mem_cons.1 hx with rfl | hx
      · show Lies _ _ (sl' s) ⟨b', n⟩
        rw [hss]
        refine ⟨own_weak (own_keep hv hkS (fun g' hg' e => ?_)) (Nat.zero_le _), fun g' hg' => Or.inr (hv.lt g' hg')⟩
        have := (hv.lt g' hg').1
        have := hgl.2
        omega
      · rw [hso _ (hnq x hx)]
        have hin : x ∈ k.fs := by rw [hl]; exact List.mem_append_right _ (List.mem_cons_of_mem _ hx)
        refine (hlies x hin).keep hk0 (fun g' hg' e => ?_) (fun _ h => Or.inl h)
        obtain ⟨cur', h2⟩ := own_blk (hlies x hin).1 hg'
        subst e
        obtain ⟨cur2, h3⟩ := own_blk hrow (g := g') rfl
        rw [h3] at h2; cases h2
  · intro i hi
    rw [hsz]
    rcases hi with h | h
    · exact Nat.lt_of_lt_of_le (hlt i h) hb.size
    · exact h.2

/-- The row of files where a name stands: what is read there, and how many of its bytes are safe, stored. -/
theorem RefAt.rowj {w : World} {G : Nat → Prop} {rd : Nat} {k : Dk} {s : Nm} {f : Fle} {j : Nat} (h : RefAt w G rd k) (hix : k.fs[j]? = some (s, f)) :
    ∃ g cap aj cj, w.cell? ⟨rd, 0, none⟩ = some (.slice (some ⟨g, 0, none⟩) k.fs.length cap) ∧ k.fs.length ≤ cap ∧ w.cell? ⟨g, j * 3, none⟩ = some (.string s) ∧ w.cell? ⟨g, j * 3 + 1, none⟩ = some (.slice aj f.b.length cj) ∧ w.cell? ⟨g, j * 3 + 2, none⟩ = some (.int .i64 (f.safe : Int)) ∧ Lies w G (.slice aj f.b.length cj) f ∧ Rd w aj f.b.length cj f.b ∧ w.frozen? ⟨g, j * 3 + 2, none⟩ = false ∧
      ∀ n : Nat, ({ k with fs := putL k.fs s ⟨f.b, n⟩ } : Dk).Good → Rp w G rd { k with fs := putL k.fs s ⟨f.b, n⟩ } (w.setCell ⟨g, j * 3 + 2, none⟩ (.int .i64 (n : Int))) := by
  have hjl : j < k.fs.length := (List.getElem?_eq_some_iff.1 hix).1
  have hlt := h.lt
  have hrise := h.good.rise
  have hbd := (h.good.each (s, f) (List.mem_of_getElem? hix)).2.2
  obtain ⟨⟨v0, sl, hblk, hrow, hvG, hlies, hslv⟩, hGrd, _, _⟩ := h
  obtain ⟨g, cap, e, hcap, _, hcs⟩ := row3 hrow (by omega)
  subst e
  obtain ⟨cur, hcur⟩ := own_blk hrow (g := g) rfl
  have hgne : g ≠ rd := fun e => by subst e; rw [hblk] at hcur; cases hcur
  have hl := hlies (s, f) (List.mem_of_getElem? hix)
  obtain ⟨aj, cj, hev, _⟩ := Rd.ofRowE hl.1
  obtain ⟨c0, c1, c2⟩ := hcs j (s, f) hix
  dsimp only at c0 c1 c2 hev
  rw [hev] at c1 hl
  refine ⟨g, cap, aj, cj, by rw [cell_of_block hblk]; rfl, hcap, c0, c1, c2, hl, Rd.ofRow hl.1 hbd, unfrozen_of_block hcur _, fun n hg => ?_⟩
  obtain ⟨p, q, hl2, hp⟩ := split_at hix
  have hr2 : Rise (p ++ (s, f) :: q) := by rw [← hl2]; exact hrise
  have hput : putL k.fs s ⟨f.b, n⟩ = p ++ (s, ⟨f.b, n⟩) :: q := by rw [hl2]; exact put_mid hr2
  have hkS : Keep (fun i => i = g) w (w.setCell ⟨g, j * 3 + 2, none⟩ (.int .i64 (n : Int))) := (Keep.refl (fun i => i = g) w).setCell (p := ⟨g, j * 3 + 2, none⟩) rfl _
  have hli : ∀ x ∈ k.fs, Lies (w.setCell ⟨g, j * 3 + 2, none⟩ (.int .i64 (n : Int))) G (sl x.1) x.2 := fun x hin => (hlies x hin).keep hkS (fun g' hg' e => by
    obtain ⟨cur', h2⟩ := own_blk (hlies x hin).1 hg'
    subst e
    rw [hcur] at h2; cases h2) (fun _ h => h)
  refine ⟨G, ⟨⟨.slice (some ⟨g, 0, none⟩) k.fs.length cap, sl, box_keep hblk hkS (fun e => hgne e.symm), ?_, hvG, ?_, hslv⟩, hGrd, fun i hi => Nat.lt_of_lt_of_le (hlt i hi) hkS.size, hg⟩, hkS.mono (fun i e => by subst e; exact hvG _ rfl), fun _ h => Or.inl h⟩
  · show World.ownsRow _ _ _ _ _ (putL k.fs s ⟨f.b, n⟩).length (ev sl (putL k.fs s ⟨f.b, n⟩))
    have hlen : (putL k.fs s ⟨f.b, n⟩).length = k.fs.length := by rw [hput, hl2]; simp
    rw [hlen, hput, ← ev_setS sl p q s f n, ← hl2, hp]
    exact own_set hrow _
  · intro x hx
    have hm : x ∈ putL k.fs s ⟨f.b, n⟩ := hx
    rw [hput] at hm
    rcases List.mem_append.1 hm with hx | hx
    · exact hli x (by rw [hl2]; exact List.mem_append_left _ hx)
    · rcases List.mem_cons.1 hx with rfl | hx
      · exact hli (s, f) (by rw [hl2]; exact List.mem_append_right _ (List.mem_cons_self ..))
      · exact hli x (by rw [hl2]; exact List.mem_append_right _ (List.mem_cons_of_mem _ hx))

set_option maxRecDepth 100000 in
set_option maxHeartbeats 4000000 in
theorem refSync_any (rd : Nat) (G : Nat → Prop) (k : Dk) (s : Nm) (hs : s.size ≤ 9223372036854775807) (hst : k.steps < 1000000) (w : World) (hR : RefAt w G rd k) :
    Calls Try.prog 28 #[.pointer (some ⟨rd, 0, none⟩), .string s] w fun e w' => e = .returned (.int .i64 (syncK k s).1) ∧ Rp w G rd (syncK k s).2 w' := by
  have hF := first_any rd G k s hs true w hR
  unfold syncK
  rcases step_first k s (fun _ => 0) (fun k f => { k with fs := putL k.fs s ⟨f.b, f.b.length⟩ }) with ⟨h0, e⟩ | ⟨h0, on, hnm, f, hlk, e⟩
  · rw [e]
    dsimp only
    obtain ⟨en, hen⟩ : ∃ en, firstK k s true = en := ⟨_, rfl⟩
    rw [hen] at hF h0 ⊢
    have hne : ((en : Int) == 0) = false := by simp; omega
    have hRp := Rp.refl hR
    clear e hen hR
    go_enter Try.func28, Try.ntmps28
    go_wp2_with (first
      | (go_at_call 53; refine hF.mono ?_; rintro e w1 ⟨rfl, rfl⟩))
    go_ret
    exact ⟨rfl, hRp⟩
  · rw [e, if_neg (by simp)]
    rw [h0] at hF
    have hP := power_any rd G k hst w hR
    have hpfs := pass_fs k
    have hgp := good_pass hR.good
    have hrise := hR.good.rise
    obtain ⟨_, hsf, hbd⟩ := look_good hR.good hlk
    obtain ⟨P, HPe⟩ : ∃ P, Hid (passK k = P) := ⟨_, rfl⟩
    rw [HPe.out] at hP hpfs hgp ⊢
    obtain ⟨en, k1⟩ := P
    dsimp only at hP hpfs hgp ⊢
    clear e h0 HPe
    by_cases hen : en = 0
    · subst hen
      rw [if_neg (by simp)]
      dsimp only
      have hlk1 : look k1.fs s = some f := by rw [hpfs]; exact hlk
      obtain ⟨j, hj, hix0, hjl⟩ := ixL_some hlk1 0
      rw [Nat.zero_add] at hj
      have hix : Hid (k1.fs[j]? = some (s, f)) := hix0
      have hA := fun w G hR => at_any rd G k1 s w hR
      rw [hj] at hA
      have hup := used_put k1.fs hgp.rise s ⟨f.b, f.b.length⟩
      rw [hlk1] at hup
      have hle : lenO (some f) = f.b.length := rfl
      have hgN : ({ k1 with fs := putL k1.fs s ⟨f.b, f.b.length⟩ } : Dk).Good := good_put hgp hnm (Nat.le_refl _) hbd (by have h := hgp.used; rw [hle] at hup; have h3 : (⟨f.b, f.b.length⟩ : Fle).b.length = f.b.length := rfl; rw [h3] at hup; omega)
      clear hix0 hj hlk hlk1 hup hle
      go_enter Try.func28, Try.ntmps28
      go_upto_region 6 with (first
        | (go_at_call 53; refine hF.mono ?_; rintro e w1 ⟨rfl, hw1⟩; replace hw1 := hw1.symm; subst hw1)
        | (go_at_call 54; refine hP.mono ?_; rintro e w2 ⟨rfl, G2, hR2, hk2, hG2⟩)
        | (go_at_call 55; refine (hA _ _ hR2).mono ?_; rintro e w3 ⟨rfl, hw3⟩; replace hw3 := hw3.symm; subst hw3))
      refine wp_region_lx (fun w' => w' = w2.drew) [16] 17 (by kernel_rfl) (by kernel_rfl) ?_
      have hVX : Below w2.heap.size w2 w2.drew := (Below.refl _ _).drew
      have hRX := hR2.below hVX
      clear hA hF hP
      generalize w2.drew = X at *
      obtain ⟨g0, cap0, aj, cj, q0, hcap0, _, q1, q2, _, _, z2, hset⟩ := hRX.rowj hix.out
      have hRp := hset _ hgN
      obtain ⟨N, HN⟩ : ∃ N, Hid (k1.fs.length = N) := ⟨_, rfl⟩
      obtain ⟨ln, HLn⟩ : ∃ ln, Hid (f.b.length = ln) := ⟨_, rfl⟩
      rw [HN.out] at q0 hcap0 hjl
      rw [HLn.out] at q1 hRp
      have hlen1 := fun w => len_slice aj ln cj 31 3 w Try.underlying31
      have hjN0 : (0 : Int) ≤ (j : Int) := by omega
      have hjN : (j : Int) < (N : Int) := by omega
      clear hset hR hRX
      have HSX : X = X := rfl
      refine lx_rd 0 ?vsa0 (by kernel_rfl) (fun _ _ d _ _ h => by cases d <;> exact h) (by kernel_rfl) HSX rfl rfl rfl (fun w' hS => ?hsa0) ?_
      case hsa0 => first | (go_simp; rfl) | go_simp
      simp only [List.setIfInBounds_toArray, List.set_cons_zero, List.set_cons_succ]
      refine lx_rd 1 ?vsa1 (by kernel_rfl) (fun _ _ d _ _ h => by cases d <;> exact h) (by kernel_rfl) HSX rfl rfl rfl (fun w' hS => ?hsa1) ?_
      case hsa1 => first | (go_simp; rfl) | go_simp
      simp only [List.setIfInBounds_toArray, List.set_cons_zero, List.set_cons_succ]
      refine lx_rd 2 ?vsa2 (by kernel_rfl) (fun _ _ d _ _ h => by cases d <;> exact h) (by kernel_rfl) HSX rfl rfl rfl (fun w' hS => ?hsa2) ?_
      case hsa2 => first | (go_simp; rfl) | go_simp
      simp only [List.setIfInBounds_toArray, List.set_cons_zero, List.set_cons_succ]
      refine lx_rd 3 (.slice (some ⟨g0, 0, none⟩) N cap0) (by kernel_rfl) (fun _ _ d _ _ h => by cases d <;> exact h) (by kernel_rfl) HSX rfl rfl rfl (fun w' hS => ?hsa3) ?_
      case hsa3 => subst hS; first | (go_simp; rfl) | go_simp
      simp only [List.setIfInBounds_toArray, List.set_cons_zero, List.set_cons_succ]
      refine lx_rd 4 ?vsa4 (by kernel_rfl) (fun _ _ d _ _ h => by cases d <;> exact h) (by kernel_rfl) HSX rfl rfl rfl (fun w' hS => ?hsa4) ?_
      case hsa4 => first | (go_simp; rfl) | go_simp
      simp only [List.setIfInBounds_toArray, List.set_cons_zero, List.set_cons_succ]
      refine lx_rd 5 ?vsa5 (by kernel_rfl) (fun _ _ d _ _ h => by cases d <;> exact h) (by kernel_rfl) HSX rfl rfl rfl (fun w' hS => ?hsa5) ?_
      case hsa5 => first | (go_simp; rfl) | go_simp
      simp only [List.setIfInBounds_toArray, List.set_cons_zero, List.set_cons_succ]
      refine lx_rd 6 ?vsa6 (by kernel_rfl) (fun _ _ d _ _ h => by cases d <;> exact h) (by kernel_rfl) HSX rfl rfl rfl (fun w' hS => ?hsa6) ?_
      case hsa6 => first | (go_simp; rfl) | go_simp
      simp only [List.setIfInBounds_toArray, List.set_cons_zero, List.set_cons_succ]
      refine lx_rd 7 ?vsa7 (by kernel_rfl) (fun _ _ d _ _ h => by cases d <;> exact h) (by kernel_rfl) HSX rfl rfl rfl (fun w' hS => ?hsa7) ?_
      case hsa7 => first | (go_simp; rfl) | go_simp
      simp only [List.setIfInBounds_toArray, List.set_cons_zero, List.set_cons_succ]
      refine lx_rd 8 (.slice (some ⟨g0, 0, none⟩) N cap0) (by kernel_rfl) (fun _ _ d _ _ h => by cases d <;> exact h) (by kernel_rfl) HSX rfl rfl rfl (fun w' hS => ?hsa8) ?_
      case hsa8 => subst hS; first | (go_simp; rfl) | go_simp
      simp only [List.setIfInBounds_toArray, List.set_cons_zero, List.set_cons_succ]
      refine lx_rd 9 ?vsa9 (by kernel_rfl) (fun _ _ d _ _ h => by cases d <;> exact h) (by kernel_rfl) HSX rfl rfl rfl (fun w' hS => ?hsa9) ?_
      case hsa9 => first | (go_simp; rfl) | go_simp
      simp only [List.setIfInBounds_toArray, List.set_cons_zero, List.set_cons_succ]
      refine lx_rd 10 (.pointer (some ⟨g0, j * 3, none⟩)) (by kernel_rfl) (fun _ _ d _ _ h => by cases d <;> exact h) (by kernel_rfl) HSX rfl rfl rfl (fun w' hS => ?hsa10) ?_
      case hsa10 => first | (go_simp; rfl) | go_simp
      simp only [List.setIfInBounds_toArray, List.set_cons_zero, List.set_cons_succ]
      refine lx_rd 11 (.pointer (some ⟨g0, j * 3 + 1, none⟩)) (by kernel_rfl) (fun _ _ d _ _ h => by cases d <;> exact h) (by kernel_rfl) HSX rfl rfl rfl (fun w' hS => ?hsa11) ?_
      case hsa11 => first | (go_simp; rfl) | go_simp
      simp only [List.setIfInBounds_toArray, List.set_cons_zero, List.set_cons_succ]
      refine lx_rd 12 (.slice aj ln cj) (by kernel_rfl) (fun _ _ d _ _ h => by cases d <;> exact h) (by kernel_rfl) HSX rfl rfl rfl (fun w' hS => ?hsa12) ?_
      case hsa12 => subst hS; first | (go_simp; rfl) | go_simp
      simp only [List.setIfInBounds_toArray, List.set_cons_zero, List.set_cons_succ]
      refine lx_rd 13 (.int .i64 ln) (by kernel_rfl) (fun _ _ d _ _ h => by cases d <;> exact h) (by kernel_rfl) HSX rfl rfl rfl (fun w' hS => ?hsa13) ?_
      case hsa13 => first | (go_simp; rfl) | go_simp
      simp only [List.setIfInBounds_toArray, List.set_cons_zero, List.set_cons_succ]
      refine lx_one 14 (by kernel_rfl) (stepT_val (w' := X) (.pointer (some ⟨g0, j * 3, none⟩)) rfl rfl rfl ?r14 (fun _ => rfl) ?_)
      case r14 => first | (go_simp; rfl) | go_simp
      simp only [List.setIfInBounds_toArray, List.set_cons_zero, List.set_cons_succ]
      refine lx_one 15 (by kernel_rfl) (stepT_val (w' := X) (.pointer (some ⟨g0, j * 3 + 2, none⟩)) rfl rfl rfl ?r15 (fun _ => rfl) ?_)
      case r15 => first | (go_simp; rfl) | go_simp
      simp only [List.setIfInBounds_toArray, List.set_cons_zero, List.set_cons_succ]
      refine lx_one 16 (by kernel_rfl) (stepT_store (w' := X.setCell ⟨g0, j * 3 + 2, none⟩ (.int .i64 (ln : Int))) rfl rfl rfl ?r16 (fun h => by cases h) ?_)
      case r16 => first | (go_simp; rfl) | go_simp
      refine lx_nil (by kernel_rfl) ?_
      go_wp2
      go_ret
      rw [HLn.out, ← hpfs]
      exact ⟨rfl, Rp.next hk2 hG2 (Rp.next (Keep.ofBelow hVX) (fun i hi => Or.inl hi) hRp)⟩
    · rw [if_pos hen]
      have hne : ((en : Int) == 0) = false := by simp; omega
      go_enter Try.func28, Try.ntmps28
      go_wp2_with (first
        | (go_at_call 53; refine hF.mono ?_; rintro e w1 ⟨rfl, hw1⟩; replace hw1 := hw1.symm; subst hw1)
        | (go_at_call 54; refine hP.mono ?_; rintro e w2 ⟨rfl, hRp⟩))
      go_ret
      exact ⟨rfl, hRp⟩

end Go.Proofs.Ytimfidhehikaiaa
