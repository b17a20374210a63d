/- The document's disk: Fuse, drop, Remove. -/
import Derived.Test.YtimfidhehikaiaaDkO
namespace Go.Proofs.Ytimfidhehikaiaa
open Go.RowKit Go.Joins

/-- The cells of the disk's block alone are turned. -/
theorem RefAt.turn {w : World} {G : Nat → Prop} {rd : Nat} {k : Dk} (hR : RefAt w G rd k) : ∃ v, w.heap[rd]? = some (.cells (rcsR k v) 73 (0, 0)) ∧ ∀ w' k1, k1.fs = k.fs → k1.Good → w'.heap[rd]? = some (.cells (rcsR k1 v) 73 (0, 0)) → Keep (fun i => i = rd) w w' → Rp w G rd k1 w' := by
  obtain ⟨⟨v, sl, hblk, hrow, hvG, hlies, hslv⟩, hGrd, hlt, hg⟩ := hR
  refine ⟨v, hblk, fun w' k1 e1 g1 hb1 hk1 => ?_⟩
  refine ⟨G, ⟨⟨v, sl, hb1, ?_, hvG, ?_, hslv⟩, hGrd, fun i hi => Nat.lt_of_lt_of_le (hlt i hi) hk1.size, g1⟩, hk1.mono (fun i e => by subst e; exact hGrd), fun _ h => Or.inl h⟩
  · rw [e1]
    refine own_keep hrow hk1 (fun g hg e => ?_)
    obtain ⟨cur, h2⟩ := own_blk hrow hg
    subst e
    rw [hblk] at h2
    cases h2
  · rw [e1]
    intro x hx
    refine (hlies x hx).keep hk1 (fun g hg e => ?_) (fun _ h => h)
    obtain ⟨cur, h2⟩ := own_blk (hlies x hx).1 hg
    subst e
    rw [hblk] at h2
    cases h2

theorem refFuse_any (rd : Nat) (G : Nat → Prop) (k : Dk) (n : Int) (h1 : n ≤ 9223372036854775807) (w : World) (hR : RefAt w G rd k) :
    Calls Try.prog 35 #[.pointer (some ⟨rd, 0, none⟩), .int .i64 n] w fun e w' => e = .returned (.int .i64 (fuseK k n).1) ∧ Rp w G rd (fuseK k n).2 w' := by
  have hgood := hR.good
  obtain ⟨v, hblk, hT⟩ := hR.turn
  have q3 : w.cell? ⟨rd, 3, none⟩ = some (.bool k.off) := by rw [cell_of_block hblk]; rfl
  have q4 : w.cell? ⟨rd, 4, none⟩ = some (.int .i64 (leftK k)) := by rw [cell_of_block hblk]; rfl
  have z4 := unfrozen_of_block hblk 4
  have hb' := block_setCell (i := 4) hblk (.int .i64 n)
  have hRp := Rp.refl hR
  clear hblk hR
  by_cases hneg : n < 0
  · have e : fuseK k n = (1, k) := by unfold fuseK; rw [if_pos hneg]
    rw [e]
    clear e hT hb'
    go_enter Try.func35, Try.ntmps35
    go_wp2
    go_ret
    exact ⟨rfl, hRp⟩
  · cases on : k.off with
    | true =>
      have e : fuseK k n = (13, k) := by unfold fuseK; rw [if_neg hneg, on]; rfl
      rw [e]
      rw [on] at q3
      clear e hT hb' on
      go_enter Try.func35, Try.ntmps35
      go_wp2
      go_ret
      exact ⟨rfl, hRp⟩
    | false =>
      have e : fuseK k n = (0, { k with fu := some n.toNat }) := by unfold fuseK; rw [if_neg hneg, on]; rfl
      rw [e]
      rw [on] at q3
      clear e on
      go_enter Try.func35, Try.ntmps35
      go_wp2
      go_ret
      refine ⟨rfl, hT _ _ rfl ⟨hgood.room, hgood.rise, hgood.used, hgood.each, fun m hm => ?_⟩ ?_ ((Keep.refl (fun i => i = rd) w).setCell (p := ⟨rd, 4, none⟩) rfl _)⟩
      · have hm' : some n.toNat = some m := hm
        injection hm' with hm'
        omega
      · rw [hb']
        have h2 : ((n.toNat : Nat) : Int) = n := Int.toNat_of_nonneg (by omega)
        simp [rcsR, leftK, h2]

theorem drop_step {l : Fls} {i : Nat} {x : Nm × Fle} (h : l[i]? = some x) (s : Nm) : dropL (l.drop i) s = if x.1 = s then dropL (l.drop (i + 1)) s else x :: dropL (l.drop (i + 1)) s := by
  have hi : i < l.length := (List.getElem?_eq_some_iff.1 h).1
  have hx : l[i] = x := (List.getElem?_eq_some_iff.1 h).2
  rw [List.drop_eq_getElem_cons hi, hx]
  obtain ⟨n, g⟩ := x
  rfl

/-- The files' row is new; the bytes lie where they lay. -/
theorem RefAt.newRow {w : World} {G : Nat → Prop} {rd : Nat} {k : Dk} (hR : RefAt w G rd k) (P : Fls) (hg1 : ({ k with fs := P } : Dk).Good) (hsub : ∀ x ∈ P, x ∈ k.fs) :
    ∃ v sl, w.heap[rd]? = some (.cells (rcsR k v) 73 (0, 0)) ∧ w.ownsRow 0 81 3 v k.fs.length (ev sl k.fs) ∧ (∀ s, ∃ a n c, sl s = .slice a n c) ∧ ∀ w9 v9, w9.ownsRow w.heap.size 81 3 v9 P.length (ev sl P) → Below w.heap.size w w9 → Rp w G rd { k with fs := P } (w9.setCell ⟨rd, 0, none⟩ v9) ∧ Keep (fun i => i = rd) w (w9.setCell ⟨rd, 0, none⟩ v9) := by
  have hlt := hR.lt
  obtain ⟨⟨v, sl, hblk, hrow, hvG, hlies, hslv⟩, hGrd, _, _⟩ := hR
  refine ⟨v, sl, hblk, hrow, hslv, fun w9 v9 ho9 hb9 => ?_⟩
  have hrl : rd < w.heap.size := (Array.getElem?_eq_some_iff.1 hblk).1
  have hblk9 := box_below hblk hb9
  have hk9 : Keep (fun i => i = rd) w (w9.setCell ⟨rd, 0, none⟩ v9) := ((Keep.ofBelow (S := fun i => i = rd) hb9).setCell (p := ⟨rd, 0, none⟩) rfl _)
  refine ⟨⟨fun i => G i ∨ (w.heap.size ≤ i ∧ i < w9.heap.size), ⟨⟨v9, sl, ?_, ?_, ?_, ?_, hslv⟩, Or.inl hGrd, ?_, hg1⟩, hk9.mono (fun i e => by subst e; exact hGrd), fun i hi => hi.imp id (fun h => h.1)⟩, hk9⟩
  · rw [block_setCell (i := 0) hblk9]
    rfl
  · refine own_weak (own_keep ho9 ((Keep.refl (fun i => i = rd) w9).setCell (p := ⟨rd, 0, none⟩) rfl _) (fun g hg e => ?_)) (Nat.zero_le _)
    have := (ho9.lt g hg).1
    omega
  · intro g hg
    exact Or.inr ⟨(ho9.lt g hg).1, (ho9.lt g hg).2⟩
  · intro x hx
    have hx := hsub x hx
    refine (hlies x hx).keep hk9 (fun g hg e => ?_) (fun _ h => Or.inl h)
    obtain ⟨cur, h2⟩ := own_blk (hlies x hx).1 hg
    subst e
    rw [hblk] at h2; cases h2
  · intro i hi
    have : (w9.setCell ⟨rd, 0, none⟩ v9).heap.size = w9.heap.size := by simp [World.setCell]
    rw [this]
    rcases hi with h | h
    · exact Nat.lt_of_lt_of_le (hlt i h) hb9.size
    · exact h.2

set_option maxRecDepth 100000 in
set_option maxHeartbeats 4000000 in
theorem refDrop_any (rd : Nat) (G : Nat → Prop) (k : Dk) (s : Nm) (hN9 : k.fs.length < 1000000) (w : World) (hR : RefAt w G rd k) :
    Calls Try.prog 65 #[.pointer (some ⟨rd, 0, none⟩), .string s] w fun e w' => e = .returned (.tuple #[]) ∧ Rp w G rd { k with fs := dropL k.fs s } w' ∧ Keep (fun i => i = rd) w w' := by
  obtain ⟨v, sl, hblk, hrow, hone, fin⟩ := hR.newRow (dropL k.fs s) (good_drop hR.good s) (fun x hx => mem_drop hx)
  obtain ⟨va, vc, rfl, hvl⟩ := row_form hrow
  obtain ⟨N, HN⟩ : ∃ N, Hid (k.fs.length = N) := ⟨_, rfl⟩
  obtain ⟨P, HP⟩ : ∃ P, Hid (dropL k.fs s = P) := ⟨_, rfl⟩
  have hq0 : w.cell? ⟨rd, 0, none⟩ = some (.slice va N vc) := by rw [cell_of_block hblk, ← HN.out]; rfl
  have HRw : Hid (w.ownsRow 0 81 3 (.slice va k.fs.length vc) k.fs.length (ev sl k.fs)) := hrow
  rw [HN.out] at hvl hN9
  rw [HP.out] at fin ⊢
  have hfd := fun w9 (hb : Below w.heap.size w w9) => (hb.cell (p := ⟨rd, 0, none⟩) (World.block_lt_of_cell? w _ hq0)).trans hq0
  have hfz : ∀ w9, Below w.heap.size w w9 → w9.frozen? ⟨rd, 0, none⟩ = false := fun w9 hb => unfrozen_of_block (box_below hblk hb) 0
  clear hrow hblk hR
  go_enter Try.func65, Try.ntmps65
  go_wp2_with fail
  go_loopw [4, 5] (fun s4 s5 wr => ∃ (i : Nat) (L : Fls), i ≤ N ∧ s5 = .int .i64 i ∧ L.length ≤ i ∧ Hid (L ++ dropL (k.fs.drop i) s = P) ∧ Hid (wr.ownsRow w.heap.size 81 3 s4 L.length (ev sl L)) ∧ Hid (Below w.heap.size w wr)) (fun _ s5 _ => N - (intOf s5).toNat)
  case atStart => exact ⟨0, [], by omega, rfl, by simp, by show [] ++ dropL (k.fs.drop 0) s = P; rw [List.drop_zero]; exact HP.out, ⟨rfl, Or.inl ⟨rfl, rfl⟩⟩, Below.refl _ _⟩
  case round =>
    obtain ⟨i, L, hi, rfl, hLl, HX, HO, HB⟩ := hrel
    have p0 := hfd wr HB.out
    by_cases hil : i < N
    · have hcl : (i : Int) < (N : Int) := by omega
      have hpos : 0 < k.fs.length := by rw [HN.out]; omega
      obtain ⟨g, cap, e, hcap, hcm, hcs⟩ := row3 HRw.out hpos
      cases e
      rw [HN.out] at hcap
      have hik : i < k.fs.length := by rw [HN.out]; exact hil
      obtain ⟨x, hx⟩ : ∃ x, k.fs[i]? = some x := ⟨_, List.getElem?_eq_getElem hik⟩
      obtain ⟨hc0, hc1, hc2⟩ := hcs i x hx
      obtain ⟨ax, nx, cx, hsx⟩ := hone x.1
      rw [hsx] at hc1
      have hlow := fun (q : Nat) (u : Value) (h : w.cell? ⟨g, q, none⟩ = some u) => (HB.out.cell (p := ⟨g, q, none⟩) (World.block_lt_of_cell? w _ h)).trans h
      have d0 := hlow _ _ hc0
      have d1 := hlow _ _ hc1
      have d2 := hlow _ _ hc2
      have Hsx : Hid (sl x.1 = .slice ax nx cx) := hsx
      have hX := HX.out
      rw [drop_step hx] at hX
      have hi0 : (0 : Int) ≤ (i : Int) := by omega
      clear hcs hc0 hc1 hc2 hlow hsx hx HX
      by_cases hxs : x.1 = s
      · rw [if_pos hxs] at hX
        have HX : Hid (L ++ dropL (k.fs.drop (i + 1)) s = P) := hX
        rw [hxs] at d0
        have hne := nm_eq s
        clear hX hxs Hsx
        go_wp2
        exact ⟨⟨i + 1, L, by omega, by go_num, by omega, HX, HO, HB⟩, by simp [intOf]; omega⟩
      · rw [if_neg hxs] at hX
        have HX : Hid (L ++ [x] ++ dropL (k.fs.drop (i + 1)) s = P) := by show _ = _; rw [List.append_assoc]; exact hX
        have hne := nm_neq hxs
        clear hX hxs
        go_wp2_with (first
          | (at_builtin; refine wp_app1 71 81 (.agg #[.string ByteArray.empty, .slice none 0 0, .int .i64 0]) 3 48 Try.underlying71 infoFile rfl (by decide) (by decide) rfl _ _ rfl w.heap.size _ L.length _ rfl HO.out #[.string x.1, .slice ax nx cx, .int .i64 (x.2.safe : Int)] rfl (by simp [Value.oneCell']) rfl (by omega) HB.out.size ?_; intro v' w1 ho1 hk1 hv1))
        have hB1 : Below w.heap.size w w1 := HB.out.trans (hk1.below HB.out.size (fun j hj => (HO.out.lt j hj).1))
        refine ⟨⟨i + 1, L ++ [x], by omega, by go_num, by simp; omega, HX, ?_, hB1⟩, by simp [intOf]; omega⟩
        show World.ownsRow _ _ _ _ _ _ _
        rw [ev_snoc, Hsx.out, List.length_append]
        exact ho1
    · obtain rfl : i = N := by omega
      have hcl : ¬ (i : Int) < (i : Int) := by omega
      have hX := HX.out
      rw [List.drop_eq_nil_of_le (by rw [HN.out]; exact Nat.le_refl _)] at hX
      have hX2 : L = P := by rw [← hX]; show L = L ++ []; rw [List.append_nil]
      have hO := HO.out
      rw [hX2] at hO
      have hf := fin wr _ hO HB.out
      have hz := hfz wr HB.out
      obtain ⟨av, cv, hv, _⟩ := row_form hO
      subst hv
      clear hX HX hX2 HO hO fin hfd hfz
      go_wp2
      go_end0
      exact ⟨rfl, hf⟩

/-- The ways of a step on the document's side. -/
theorem step_first (k : Dk) (s : Nm) (err : Fle → Nat) (go : Dk → Fle → Dk) :
    (firstK k s true ≠ 0 ∧ stepK k s err go = (firstK k s true, k)) ∨
    (firstK k s true = 0 ∧ k.off = false ∧ isNm s = true ∧ ∃ f, look k.fs s = some f ∧ stepK k s err go = if err f ≠ 0 then (err f, k) else if (passK k).1 ≠ 0 then passK k else (0, go (passK k).2 f)) := by
  unfold firstK stepK
  cases on : k.off with
  | true => exact Or.inl ⟨by simp, by simp⟩
  | false =>
    cases hn : isNm s with
    | false => exact Or.inl ⟨by simp, by simp⟩
    | true =>
      cases hl : look k.fs s with
      | none => exact Or.inl ⟨by simp, by simp⟩
      | some f => exact Or.inr ⟨by simp, rfl, rfl, f, rfl, by simp⟩

set_option maxHeartbeats 2000000 in
theorem refRemove_any (rd : Nat) (G : Nat → Prop) (k : Dk) (s : Nm) (hs : s.size ≤ 9223372036854775807) (hst : k.steps < 1000000) (hfl : k.fs.length < 1000000) (w : World) (hR : RefAt w G rd k) :
    Calls Try.prog 32 #[.pointer (some ⟨rd, 0, none⟩), .string s] w fun e w' => e = .returned (.int .i64 (removeK k s).1) ∧ Rp w G rd (removeK k s).2 w' := by
  have hF := first_any rd G k s hs true w hR
  unfold removeK
  rcases step_first k s (fun _ => 0) (fun k _ => { k with fs := dropL k.fs s }) with ⟨h0, e⟩ | ⟨h0, on, hnm, f, hlk, e⟩
  · rw [e]
    dsimp only
    obtain ⟨en, hen⟩ : ∃ en, firstK k s true = en := ⟨_, rfl⟩
    rw [hen] at hF h0 ⊢
    have hne : ((en : Int) == 0) = false := by simp; omega
    have hRp := Rp.refl hR
    clear e hen hR
    go_enter Try.func32, Try.ntmps32
    go_wp2_with (first
      | (go_at_call 53; refine hF.mono ?_; rintro e w1 ⟨rfl, rfl⟩))
    go_ret
    exact ⟨rfl, hRp⟩
  · rw [e, if_neg (by simp)]
    rw [h0] at hF
    have hP := power_any rd G k hst w hR
    have hpfs := pass_fs k
    obtain ⟨P, HPe⟩ : ∃ P, Hid (passK k = P) := ⟨_, rfl⟩
    rw [HPe.out] at hP hpfs ⊢
    obtain ⟨en, k1⟩ := P
    dsimp only at hP hpfs ⊢
    clear e h0 HPe
    by_cases hen : en = 0
    · subst hen
      rw [if_neg (by simp)]
      go_enter Try.func32, Try.ntmps32
      go_wp2_with (first
        | (go_at_call 53; refine hF.mono ?_; rintro e w1 ⟨rfl, hw1⟩; replace hw1 := hw1.symm; subst hw1)
        | (go_at_call 54; refine hP.mono ?_; rintro e w2 ⟨rfl, G2, hR2, hk2, hG2⟩)
        | (go_at_call 65; refine (refDrop_any rd G2 k1 s (by rw [hpfs]; exact hfl) _ hR2).mono ?_; rintro e w3 ⟨rfl, hRp, _⟩))
      go_ret
      exact ⟨rfl, Rp.next hk2 hG2 hRp⟩
    · rw [if_pos hen]
      have hne : ((en : Int) == 0) = false := by simp; omega
      go_enter Try.func32, Try.ntmps32
      go_wp2_with (first
        | (go_at_call 53; refine hF.mono ?_; rintro e w1 ⟨rfl, hw1⟩; replace hw1 := hw1.symm; subst hw1)
        | (go_at_call 54; refine hP.mono ?_; rintro e w2 ⟨rfl, hRp⟩))
      go_ret
      exact ⟨rfl, hRp⟩

end Go.Proofs.Ytimfidhehikaiaa
