/- The document's put. -/
import Derived.Test.YtikkieaokfailaaGreatDoorDkK
import Derived.Sort.Walk0
namespace Go.Proofs.YtikkieaokfailaaGreatDoor
open Go.RowKit Go.Joins

theorem put_split {p q : Fls} {s : Nm} {f : Fle} (hp : ∀ x ∈ p, ltN x.1 s) (hq : ∀ x, q.head? = some x → ltN s x.1) : putL (p ++ q) s f = p ++ (s, f) :: q := by
  induction p with
  | nil =>
    cases q with
    | nil => rfl
    | cons y r =>
      obtain ⟨n, g⟩ := y
      show putL ((n, g) :: r) s f = _
      unfold putL
      rw [if_pos (hq (n, g) rfl)]
      rfl
  | cons y r ih =>
    obtain ⟨n, g⟩ := y
    have h1 : ltN n s := hp (n, g) (List.mem_cons_self ..)
    show putL ((n, g) :: (r ++ q)) s f = _
    unfold putL
    rw [if_neg (fun h => ltN_irrefl _ (ltN_trans h h1)), if_neg (fun e => by subst e; exact ltN_irrefl _ h1), ih (fun x hx => hp x (List.mem_cons_of_mem _ hx))]
    rfl
theorem gtr_yes {a b : Nm} (h : ltN b a) : (!(Op.bytesLess a.toList b.toList || a.toList == b.toList)) = true := by
  rw [ByteArray.toList_eq, ByteArray.toList_eq, bytesLess_eq]
  have h1 : ¬ a.data.toList < b.data.toList := fun h2 => List.lt_irrefl _ (List.lt_trans h h2)
  have h2 : ¬ a.data.toList = b.data.toList := fun e => by rw [ltN, e] at h; exact List.lt_irrefl _ h
  have h3 : ¬ a.data = b.data := fun e => h2 (by rw [e])
  simp [h1, h3]
theorem gtr_no {a b : Nm} (h : ltN a b) : (!(Op.bytesLess a.toList b.toList || a.toList == b.toList)) = false := by
  rw [ByteArray.toList_eq, ByteArray.toList_eq, bytesLess_eq]
  have h1 : a.data.toList < b.data.toList := h
  simp [h1]

/-- The row of files with one more. -/
theorem ev_snoc (sl : Nm → Value) (l : Fls) (x : Nm × Fle) : ev sl (l ++ [x]) = ev sl l ++ [.string x.1, sl x.1, .int .i64 (x.2.safe : Int)] := by rw [ev_app]; rfl

set_option maxRecDepth 100000 in
set_option maxHeartbeats 6000000 in
/-- put: a file of a new name, in its place. -/
theorem refPut_any (rd : Nat) (G : Nat → Prop) (k : Dk) (s : Nm) (hno : look k.fs s = none) (f : Fle) (a : Option Addr) (n c : Nat) (hN9 : k.fs.length < 1000000) (w : World) (hR : RefAt w G rd k) (hg1 : ({ k with fs := putL k.fs s f } : Dk).Good)
    (hli : Lies w G (.slice a n c) f) :
    Calls Tryz.prog 58 #[.pointer (some ⟨rd, 0, none⟩), .agg #[.string s, .slice a n c, .int .i64 (f.safe : Int)]] w fun e w' => e = .returned (.tuple #[]) ∧ Rp w G rd { k with fs := putL k.fs s f } w' := by
  have hlt := hR.lt
  have hrise := hR.good.rise
  obtain ⟨⟨v, sl, hblk, hrow, hvG, hlies, hslv⟩, hGrd, _, _⟩ := hR
  have hneq : ∀ x ∈ k.fs, x.1 ≠ s := look_none hno
  obtain ⟨sl', hsl'⟩ : ∃ sl' : Nm → Value, sl' = fun t => if t = s then .slice a n c else sl t := ⟨_, rfl⟩
  have hss : sl' s = .slice a n c := by rw [hsl']; simp
  have hso : ∀ t, t ≠ s → sl' t = sl t := fun t ht => by rw [hsl']; simp [ht]
  have hevl : ev sl k.fs = ev sl' k.fs := ev_congr (fun x hx => (hso x.1 (hneq x hx)).symm)
  rw [hevl] at hrow
  obtain ⟨va, vc, rfl, hvl⟩ := row_form hrow
  obtain ⟨N, HN⟩ : ∃ N, Hid (k.fs.length = N) := ⟨_, rfl⟩
  obtain ⟨P, HP⟩ : ∃ P, Hid (putL k.fs s f = P) := ⟨_, rfl⟩
  have hq0 : w.cell? ⟨rd, 0, none⟩ = some (.slice va N vc) := by rw [cell_of_block hblk, ← HN.out]; rfl
  have HRw : Hid (w.ownsRow 0 113 3 (.slice va k.fs.length vc) k.fs.length (ev sl' k.fs)) := hrow
  rw [HN.out] at hvl hN9
  rw [HP.out] at hg1 ⊢
  have Hss : Hid (sl' s = .slice a n c) := hss
  have Hblk : Hid (w.heap[rd]? = some (.cells (rcsR k (.slice va k.fs.length vc)) 93 (0, 0))) := hblk
  have hone : ∀ t, ∃ a n c, sl' t = .slice a n c := fun t => by
    by_cases h : t = s
    · exact ⟨a, n, c, by rw [h, hss]⟩
    · rw [hso t h]; exact hslv t
  have fin : ∀ w9 v9, w9.ownsRow w.heap.size 113 3 v9 P.length (ev sl' P) → Below w.heap.size w w9 → Rp w G rd { k with fs := P } (w9.setCell ⟨rd, 0, none⟩ v9) := fun w9 v9 ho9 hb9 => by
    have hrl : rd < w.heap.size := (Array.getElem?_eq_some_iff.1 hblk).1
    have hblk9 := box_below hblk hb9
    have hk9 : Keep (fun i => i = rd) w (w9.setCell ⟨rd, 0, none⟩ v9) := ((Keep.ofBelow (S := fun i => i = rd) hb9).setCell (p := ⟨rd, 0, none⟩) rfl _)
    refine ⟨fun i => G i ∨ (w.heap.size ≤ i ∧ i < w9.heap.size), ⟨⟨v9, sl', ?_, ?_, ?_, ?_, hone⟩, Or.inl hGrd, ?_, hg1⟩, hk9.mono (fun i e => by subst e; exact hGrd), fun i hi => hi.imp id (fun h => h.1)⟩
    · rw [block_setCell (i := 0) hblk9]
      rfl
    · refine own_weak (own_keep ho9 ((Keep.refl (fun i => i = rd) w9).setCell (p := ⟨rd, 0, none⟩) rfl _) (fun g hg e => ?_)) (Nat.zero_le _)
      have := (ho9.lt g hg).1
      omega
    · intro g hg
      exact Or.inr ⟨(ho9.lt g hg).1, (ho9.lt g hg).2⟩
    · intro x hx
      have hm : x ∈ putL k.fs s f := by rw [HP.out]; exact hx
      rcases mem_put hm with rfl | hx
      · show Lies _ _ (sl' s) f
        rw [hss]
        refine hli.keep hk9 (fun g hg e => ?_) (fun _ h => Or.inl h)
        obtain ⟨cur, h2⟩ := own_blk hli.1 hg
        subst e
        rw [hblk] at h2; cases h2
      · rw [hso x.1 (hneq x hx)]
        refine (hlies x hx).keep hk9 (fun g hg e => ?_) (fun _ h => Or.inl h)
        obtain ⟨cur, h2⟩ := own_blk (hlies x hx).1 hg
        subst e
        rw [hblk] at h2; cases h2
    · intro i hi
      have : (w9.setCell ⟨rd, 0, none⟩ v9).heap.size = w9.heap.size := by simp [World.setCell]
      rw [this]
      rcases hi with h | h
      · exact Nat.lt_of_lt_of_le (hlt i h) hb9.size
      · exact h.2
  have hfd := fun w9 (hb : Below w.heap.size w w9) => (hb.cell (p := ⟨rd, 0, none⟩) (World.block_lt_of_cell? w _ hq0)).trans hq0
  have hfz : ∀ w9, Below w.heap.size w w9 → w9.frozen? ⟨rd, 0, none⟩ = false := fun w9 hb => unfrozen_of_block (box_below hblk hb) 0
  have HNe : Hid (∀ x ∈ k.fs, x.1 ≠ s) := hneq
  clear hrow hblk hvG hlies hslv hevl hss hso hneq hno hli hlt hsl' hg1
  go_enter Tryz.func58, Tryz.ntmps58
  go_wp2_with fail
  obtain ⟨bf, hbf⟩ : ∃ bf, w.heap.size = bf := ⟨_, rfl⟩
  have hB0 : Below w.heap.size w (w.alloc (.cells #[.string s, .slice a n c, .int .i64 (f.safe : Int)] 113)) := (Below.refl _ _).alloc (Nat.le_refl _) _
  have hfil := alloc_at w (.cells #[.string s, .slice a n c, .int .i64 (f.safe : Int)] 113)
  rw [hbf] at hfil ⊢
  generalize w.alloc (.cells #[.string s, .slice a n c, .int .i64 (f.safe : Int)] 113) = w0 at *
  go_loopw [4, 5, 6] (fun s4 s5 s6 wr => ∃ (i : Nat) (dn : Bool) (L : Fls), i ≤ N ∧ s6 = .int .i64 i ∧ s5 = .bool dn ∧ L.length ≤ i + 1 ∧ Hid (if dn then L ++ k.fs.drop i = P else (L = k.fs.take i ∧ ∀ x ∈ L, ltN x.1 s)) ∧ Hid (wr.ownsRow w0.heap.size 113 3 s4 L.length (ev sl' L)) ∧ Hid (Below w0.heap.size w0 wr)) (fun _ _ s6 _ => N - (intOf s6).toNat)
  case atStart => exact ⟨0, false, [], by omega, rfl, rfl, by simp, ⟨rfl, fun x hx => by cases hx⟩, ⟨rfl, Or.inl ⟨rfl, rfl⟩⟩, Below.refl _ _⟩
  case round =>
    obtain ⟨i, dn, L, hi, rfl, rfl, hLl, HX, HO, HB⟩ := hrel
    have hBw : Below w.heap.size w wr := hB0.trans (HB.out.mono hB0.size)
    have p0 := hfd wr hBw
    have hflr := box_below hfil HB.out
    have f0 := cell_of_block hflr 0
    have f1 := cell_of_block hflr 1
    have f2 := cell_of_block hflr 2
    simp at f0 f1 f2
    by_cases hil : i < N
    · have hcl : (i : Int) < (N : Int) := by omega
      have hpos : 0 < k.fs.length := by rw [HN.out]; omega
      obtain ⟨g, cap, e, hcap, hcm, hcs⟩ := row3 HRw.out hpos
      cases e
      rw [HN.out] at hcap
      have hik : i < k.fs.length := by rw [HN.out]; exact hil
      obtain ⟨x, hx⟩ : ∃ x, k.fs[i]? = some x := ⟨_, List.getElem?_eq_getElem hik⟩
      obtain ⟨hc0, hc1, hc2⟩ := hcs i x hx
      obtain ⟨ax, nx, cx, hsx⟩ := hone x.1
      rw [hsx] at hc1
      have hlow := fun (q : Nat) (u : Value) (h : w.cell? ⟨g, q, none⟩ = some u) => (hBw.cell (p := ⟨g, q, none⟩) (World.block_lt_of_cell? w _ h)).trans h
      have d0 := hlow _ _ hc0
      have d1 := hlow _ _ hc1
      have d2 := hlow _ _ hc2
      have Hsx : Hid (sl' x.1 = .slice ax nx cx) := hsx
      have hdr : k.fs.drop i = x :: k.fs.drop (i + 1) := by rw [List.drop_eq_getElem_cons hik, (List.getElem?_eq_some_iff.1 hx).2]
      have htk : k.fs.take (i + 1) = k.fs.take i ++ [x] := by rw [List.take_add_one, hx]; rfl
      have Hdr : Hid (k.fs.drop i = x :: k.fs.drop (i + 1)) := hdr
      have Htk : Hid (k.fs.take (i + 1) = k.fs.take i ++ [x]) := htk
      have Hx : Hid (k.fs[i]? = some x) := hx
      have hi0 : (0 : Int) ≤ (i : Int) := by omega
      have hgw : g < w0.heap.size := Nat.lt_of_lt_of_le (World.block_lt_of_cell? w _ hc0) hB0.size
      clear hcs hc0 hc1 hc2 hlow hsx hdr htk hx
      cases dn with
      | true =>
        go_upto_region 6 with fail
        refine wp_region_lx (fun w' => w' = wr.drew) [] 15 (by kernel_rfl) (by kernel_rfl) ?_
        have HOd := own_keep (S := fun _ => False) HO.out ((Keep.refl (fun _ => False) wr).drew) (fun _ _ h => h)
        have HBd : Below w0.heap.size w0 wr.drew := HB.out.drew
        have e0 : wr.drew.cell? ⟨rd, 0, none⟩ = some (.slice (some ⟨g, 0, none⟩) N vc) := p0
        have e1 : wr.drew.cell? ⟨g, i * 3, none⟩ = some (.string x.1) := d0
        have e2 : wr.drew.cell? ⟨g, i * 3 + 1, none⟩ = some (.slice ax nx cx) := d1
        have e3 : wr.drew.cell? ⟨g, i * 3 + 2, none⟩ = some (.int .i64 (x.2.safe : Int)) := d2
        have k0 : wr.drew.cell? ⟨bf, 0, none⟩ = some (.string s) := f0
        have k1 : wr.drew.cell? ⟨bf, 1, none⟩ = some (.slice a n c) := f1
        have k2 : wr.drew.cell? ⟨bf, 2, none⟩ = some (.int .i64 (f.safe : Int)) := f2
        clear HO HB p0 d0 d1 d2 f0 f1 f2 hflr hBw
        generalize wr.drew = X at *
        have HSa : X = X := rfl
        refine lx_rd 0 ?va0 (by kernel_rfl) (fun _ _ d _ _ h => by cases d <;> exact h) (by kernel_rfl) HSa rfl rfl rfl (fun w' hS => ?ha0) ?_
        case ha0 => first | (go_simp; rfl) | go_simp
        simp only [List.setIfInBounds_toArray, List.set_cons_zero, List.set_cons_succ]
        refine lx_rd 1 (.bool false) (by kernel_rfl) (fun _ _ d _ _ h => by cases d <;> exact h) (by kernel_rfl) HSa rfl rfl rfl (fun w' hS => ?ha1) ?_
        case ha1 => first | (go_simp; rfl) | go_simp
        simp only [List.setIfInBounds_toArray, List.set_cons_zero, List.set_cons_succ]
        refine lx_rd 2 ?va2 (by kernel_rfl) (fun _ _ d _ _ h => by cases d <;> exact h) (by kernel_rfl) HSa rfl rfl rfl (fun w' hS => ?ha2) ?_
        case ha2 => first | (go_simp; rfl) | go_simp
        simp only [List.setIfInBounds_toArray, List.set_cons_zero, List.set_cons_succ]
        refine lx_skip 3 (by kernel_rfl) (fun _ _ d _ _ h => by cases d <;> exact h) (by kernel_rfl) HSa rfl rfl rfl ?_
        simp only [List.setIfInBounds_toArray, List.set_cons_zero, List.set_cons_succ]
        refine lx_skip 4 (by kernel_rfl) (fun _ _ d _ _ h => by cases d <;> exact h) (by kernel_rfl) HSa rfl rfl rfl ?_
        simp only [List.setIfInBounds_toArray, List.set_cons_zero, List.set_cons_succ]
        refine lx_skip 5 (by kernel_rfl) (fun _ _ d _ _ h => by cases d <;> exact h) (by kernel_rfl) HSa rfl rfl rfl ?_
        simp only [List.setIfInBounds_toArray, List.set_cons_zero, List.set_cons_succ]
        refine lx_skip 6 (by kernel_rfl) (fun _ _ d _ _ h => by cases d <;> exact h) (by kernel_rfl) HSa rfl rfl rfl ?_
        simp only [List.setIfInBounds_toArray, List.set_cons_zero, List.set_cons_succ]
        refine lx_skip 7 (by kernel_rfl) (fun _ _ d _ _ h => by cases d <;> exact h) (by kernel_rfl) HSa rfl rfl rfl ?_
        simp only [List.setIfInBounds_toArray, List.set_cons_zero, List.set_cons_succ]
        refine lx_skip 8 (by kernel_rfl) (fun _ _ d _ _ h => by cases d <;> exact h) (by kernel_rfl) HSa rfl rfl rfl ?_
        simp only [List.setIfInBounds_toArray, List.set_cons_zero, List.set_cons_succ]
        refine lx_skip 9 (by kernel_rfl) (fun _ _ d _ _ h => by cases d <;> exact h) (by kernel_rfl) HSa rfl rfl rfl ?_
        simp only [List.setIfInBounds_toArray, List.set_cons_zero, List.set_cons_succ]
        refine lx_skip 10 (by kernel_rfl) (fun _ _ d _ _ h => by cases d <;> exact h) (by kernel_rfl) HSa rfl rfl rfl ?_
        simp only [List.setIfInBounds_toArray, List.set_cons_zero, List.set_cons_succ]
        refine lx_skip 11 (by kernel_rfl) (fun _ _ d _ _ h => by cases d <;> exact h) (by kernel_rfl) HSa rfl rfl rfl ?_
        simp only [List.setIfInBounds_toArray, List.set_cons_zero, List.set_cons_succ]
        refine lx_skip 12 (by kernel_rfl) (fun _ _ d _ _ h => by cases d <;> exact h) (by kernel_rfl) HSa rfl rfl rfl ?_
        simp only [List.setIfInBounds_toArray, List.set_cons_zero, List.set_cons_succ]
        refine lx_skip 13 (by kernel_rfl) (fun _ _ d _ _ h => by cases d <;> exact h) (by kernel_rfl) HSa rfl rfl rfl ?_
        simp only [List.setIfInBounds_toArray, List.set_cons_zero, List.set_cons_succ]
        refine lx_rd 14 (.bool false) (by kernel_rfl) (fun _ _ d _ _ h => by cases d <;> exact h) (by kernel_rfl) HSa rfl rfl rfl (fun w' hS => ?hb14) ?_
        case hb14 => first | (go_simp; rfl) | go_simp
        simp only [List.setIfInBounds_toArray, List.set_cons_zero, List.set_cons_succ]
        refine lx_nil (by kernel_rfl) ?_
        clear HSa
        have hBX : Below w.heap.size w X := hB0.trans (HBd.mono hB0.size)
        go_wp2_with (first
          | (at_builtin; refine wp_app1 91 113 (.agg #[.string ByteArray.empty, .slice none 0 0, .int .i64 0]) 3 48 Tryz.underlying91 infoFile rfl (by decide) (by decide) rfl _ _ rfl w0.heap.size _ L.length _ rfl HOd #[.string x.1, .slice ax nx cx, .int .i64 (x.2.safe : Int)] rfl (by simp [Value.oneCell']) rfl (by omega) HBd.size ?_; intro v' w1 ho1 hk1 hv1))
        have hB1 : Below w0.heap.size w0 w1 := HBd.trans (hk1.below HBd.size (fun j hj => (HOd.lt j hj).1))
        have hXX := HX.out
        simp only [if_true] at hXX
        refine ⟨⟨i + 1, true, L ++ [x], by omega, by go_num, rfl, by simp; omega, ?_, ?_, ?_⟩, by simp [intOf]; omega⟩
        · show (if true = true then (L ++ [x]) ++ k.fs.drop (i + 1) = P else _)
          rw [if_pos rfl, List.append_assoc, ← hXX, Hdr.out]
          rfl
        · show World.ownsRow _ _ _ _ _ _ _
          rw [ev_snoc, Hsx.out, List.length_append]
          exact ho1
        · exact hB1
      | false =>
        have hXX := HX.out
        simp only [Bool.false_eq_true, if_false] at hXX
        obtain ⟨hL0, hsm0⟩ := hXX
        have hL : Hid (L = k.fs.take i) := hL0
        have hLi : L.length ≤ i := by rw [hL0, List.length_take]; omega
        have hsm : ∀ y ∈ L, ltN y.1 s := hsm0
        have hxs : ltN s x.1 ∨ ltN x.1 s := by
          by_cases h : ltN s x.1
          · exact Or.inl h
          · exact Or.inr (ltN_tri h (fun e => HNe.out x (List.mem_of_getElem? Hx.out) e.symm))
        clear hL0 hsm0 HX
        rcases hxs with hxs | hxs
        · -- a greater name: the file goes here
          go_upto_region 6 with fail
          refine wp_region_lx (fun w' => w' = wr.drew) [] 15 (by kernel_rfl) (by kernel_rfl) ?_
          have HOd := own_keep (S := fun _ => False) HO.out ((Keep.refl (fun _ => False) wr).drew) (fun _ _ h => h)
          have HBd : Below w0.heap.size w0 wr.drew := HB.out.drew
          have e0 : wr.drew.cell? ⟨rd, 0, none⟩ = some (.slice (some ⟨g, 0, none⟩) N vc) := p0
          have e1 : wr.drew.cell? ⟨g, i * 3, none⟩ = some (.string x.1) := d0
          have e2 : wr.drew.cell? ⟨g, i * 3 + 1, none⟩ = some (.slice ax nx cx) := d1
          have e3 : wr.drew.cell? ⟨g, i * 3 + 2, none⟩ = some (.int .i64 (x.2.safe : Int)) := d2
          have k0 : wr.drew.cell? ⟨bf, 0, none⟩ = some (.string s) := f0
          have k1 : wr.drew.cell? ⟨bf, 1, none⟩ = some (.slice a n c) := f1
          have k2 : wr.drew.cell? ⟨bf, 2, none⟩ = some (.int .i64 (f.safe : Int)) := f2
          clear HO HB p0 d0 d1 d2 f0 f1 f2 hflr hBw
          generalize wr.drew = X at *
          have HSa : X = X := rfl
          refine lx_rd 0 ?vd0 (by kernel_rfl) (fun _ _ d _ _ h => by cases d <;> exact h) (by kernel_rfl) HSa rfl rfl rfl (fun w' hS => ?hd0) ?_
          case hd0 => first | (go_simp; rfl) | go_simp
          simp only [List.setIfInBounds_toArray, List.set_cons_zero, List.set_cons_succ]
          refine lx_rd 1 (.bool true) (by kernel_rfl) (fun _ _ d _ _ h => by cases d <;> exact h) (by kernel_rfl) HSa rfl rfl rfl (fun w' hS => ?hd1) ?_
          case hd1 => first | (go_simp; rfl) | go_simp
          simp only [List.setIfInBounds_toArray, List.set_cons_zero, List.set_cons_succ]
          refine lx_rd 2 ?vd2 (by kernel_rfl) (fun _ _ d _ _ h => by cases d <;> exact h) (by kernel_rfl) HSa rfl rfl rfl (fun w' hS => ?hd2) ?_
          case hd2 => first | (go_simp; rfl) | go_simp
          simp only [List.setIfInBounds_toArray, List.set_cons_zero, List.set_cons_succ]
          refine lx_rd 3 ?vd3 (by kernel_rfl) (fun _ _ d _ _ h => by cases d <;> exact h) (by kernel_rfl) HSa rfl rfl rfl (fun w' hS => ?hd3) ?_
          case hd3 => first | (go_simp; rfl) | go_simp
          simp only [List.setIfInBounds_toArray, List.set_cons_zero, List.set_cons_succ]
          refine lx_rd 4 ?vd4 (by kernel_rfl) (fun _ _ d _ _ h => by cases d <;> exact h) (by kernel_rfl) HSa rfl rfl rfl (fun w' hS => ?hd4) ?_
          case hd4 => first | (go_simp; rfl) | go_simp
          simp only [List.setIfInBounds_toArray, List.set_cons_zero, List.set_cons_succ]
          refine lx_rd 5 ?vd5 (by kernel_rfl) (fun _ _ d _ _ h => by cases d <;> exact h) (by kernel_rfl) HSa rfl rfl rfl (fun w' hS => ?hd5) ?_
          case hd5 => first | (go_simp; rfl) | go_simp
          simp only [List.setIfInBounds_toArray, List.set_cons_zero, List.set_cons_succ]
          refine lx_rd 6 (.slice (some ⟨g, 0, none⟩) N vc) (by kernel_rfl) (fun _ _ d _ _ h => by cases d <;> exact h) (by kernel_rfl) HSa rfl rfl rfl (fun w' hS => ?hd6) ?_
          case hd6 => subst hS; first | (go_simp; rfl) | go_simp
          simp only [List.setIfInBounds_toArray, List.set_cons_zero, List.set_cons_succ]
          refine lx_rd 7 ?vd7 (by kernel_rfl) (fun _ _ d _ _ h => by cases d <;> exact h) (by kernel_rfl) HSa rfl rfl rfl (fun w' hS => ?hd7) ?_
          case hd7 => first | (go_simp; rfl) | go_simp
          simp only [List.setIfInBounds_toArray, List.set_cons_zero, List.set_cons_succ]
          refine lx_rd 8 (.pointer (some ⟨g, i * 3, none⟩)) (by kernel_rfl) (fun _ _ d _ _ h => by cases d <;> exact h) (by kernel_rfl) HSa rfl rfl rfl (fun w' hS => ?hd8) ?_
          case hd8 => first | (go_simp; rfl) | go_simp
          simp only [List.setIfInBounds_toArray, List.set_cons_zero, List.set_cons_succ]
          refine lx_rd 9 ?vd9 (by kernel_rfl) (fun _ _ d _ _ h => by cases d <;> exact h) (by kernel_rfl) HSa rfl rfl rfl (fun w' hS => ?hd9) ?_
          case hd9 => first | (go_simp; rfl) | go_simp
          simp only [List.setIfInBounds_toArray, List.set_cons_zero, List.set_cons_succ]
          refine lx_rd 10 (.string x.1) (by kernel_rfl) (fun _ _ d _ _ h => by cases d <;> exact h) (by kernel_rfl) HSa rfl rfl rfl (fun w' hS => ?hd10) ?_
          case hd10 => subst hS; first | (go_simp; rfl) | go_simp
          simp only [List.setIfInBounds_toArray, List.set_cons_zero, List.set_cons_succ]
          refine lx_rd 11 ?vd11 (by kernel_rfl) (fun _ _ d _ _ h => by cases d <;> exact h) (by kernel_rfl) HSa rfl rfl rfl (fun w' hS => ?hd11) ?_
          case hd11 => first | (go_simp; rfl) | go_simp
          simp only [List.setIfInBounds_toArray, List.set_cons_zero, List.set_cons_succ]
          refine lx_rd 12 (.string s) (by kernel_rfl) (fun _ _ d _ _ h => by cases d <;> exact h) (by kernel_rfl) HSa rfl rfl rfl (fun w' hS => ?hd12) ?_
          case hd12 => subst hS; first | (go_simp; rfl) | go_simp
          simp only [List.setIfInBounds_toArray, List.set_cons_zero, List.set_cons_succ]
          refine lx_rd 13 (.bool true) (by kernel_rfl) (fun _ _ d _ _ h => by cases d <;> exact h) (by kernel_rfl) HSa rfl rfl rfl (fun w' hS => ?hd13) ?_
          case hd13 => have hgt := gtr_yes hxs; first | (go_simp; rfl) | go_simp
          simp only [List.setIfInBounds_toArray, List.set_cons_zero, List.set_cons_succ]
          refine lx_rd 14 (.bool true) (by kernel_rfl) (fun _ _ d _ _ h => by cases d <;> exact h) (by kernel_rfl) HSa rfl rfl rfl (fun w' hS => ?hd14) ?_
          case hd14 => first | (go_simp; rfl) | go_simp
          simp only [List.setIfInBounds_toArray, List.set_cons_zero, List.set_cons_succ]
          refine lx_nil (by kernel_rfl) ?_
          clear HSa
          have hBX : Below w.heap.size w X := hB0.trans (HBd.mono hB0.size)
          have k0' := k0
          go_upto_region 9 with (first
            | (at_builtin; refine wp_app1 91 113 (.agg #[.string ByteArray.empty, .slice none 0 0, .int .i64 0]) 3 48 Tryz.underlying91 infoFile rfl (by decide) (by decide) rfl _ _ rfl w0.heap.size _ L.length _ rfl HOd #[.string s, .slice a n c, .int .i64 (f.safe : Int)] rfl (by simp [Value.oneCell']) rfl (by omega) HBd.size ?_; intro v' w1 ho1 hk1 hv1))
          have hB1 : Below w0.heap.size w0 w1 := HBd.trans (hk1.below HBd.size (fun j hj => (HOd.lt j hj).1))
          have hBw1 : Below w.heap.size w w1 := hB0.trans (hB1.mono hB0.size)
          have j0 : w1.cell? ⟨rd, 0, none⟩ = some (.slice (some ⟨g, 0, none⟩) N vc) := hfd w1 hBw1
          have j1 : w1.cell? ⟨g, i * 3, none⟩ = some (.string x.1) := hk1.cell e1 (fun h => Nat.lt_irrefl _ (Nat.lt_of_le_of_lt (HOd.lt _ h).1 hgw))
          have j2 : w1.cell? ⟨g, i * 3 + 1, none⟩ = some (.slice ax nx cx) := hk1.cell e2 (fun h => Nat.lt_irrefl _ (Nat.lt_of_le_of_lt (HOd.lt _ h).1 hgw))
          have j3 : w1.cell? ⟨g, i * 3 + 2, none⟩ = some (.int .i64 (x.2.safe : Int)) := hk1.cell e3 (fun h => Nat.lt_irrefl _ (Nat.lt_of_le_of_lt (HOd.lt _ h).1 hgw))
          have ho1' : w1.ownsRow w0.heap.size 113 3 v' (L.length + 1) (ev sl' (L ++ [(s, f)])) := by rw [ev_snoc]; show World.ownsRow _ _ _ _ _ _ (ev sl' L ++ [.string s, sl' s, .int .i64 (f.safe : Int)]); rw [Hss.out]; exact ho1
          clear e0 e1 e2 e3 k0 k1 k2 k0' HOd ho1 hk1 hv1
          go_wp2_with (first
            | (at_builtin; refine wp_app1 91 113 (.agg #[.string ByteArray.empty, .slice none 0 0, .int .i64 0]) 3 48 Tryz.underlying91 infoFile rfl (by decide) (by decide) rfl _ _ rfl w0.heap.size _ (L.length + 1) _ rfl ho1' #[.string x.1, .slice ax nx cx, .int .i64 (x.2.safe : Int)] rfl (by simp [Value.oneCell']) rfl (by omega) hB1.size ?_; intro v2 w2 ho2 hk2 hv2))
          have hB2 : Below w0.heap.size w0 w2 := hB1.trans (hk2.below hB1.size (fun j hj => (ho1'.lt j hj).1))
          refine ⟨⟨i + 1, true, L ++ [(s, f)] ++ [x], by omega, by go_num, rfl, by simp; omega, ?_, ?_, hB2⟩, by simp [intOf]; omega⟩
          · show (if true = true then (L ++ [(s, f)] ++ [x]) ++ k.fs.drop (i + 1) = P else _)
            rw [if_pos rfl, ← HP.out]
            have e : k.fs = L ++ (x :: k.fs.drop (i + 1)) := by rw [hL.out, ← Hdr.out, List.take_append_drop]
            have h := put_split (f := f) hsm (q := x :: k.fs.drop (i + 1)) (fun y hy => by cases hy; exact hxs)
            rw [← e] at h
            rw [h]
            simp
          · show World.ownsRow _ _ _ _ _ _ _
            rw [ev_snoc, Hsx.out]
            have e2 : (L ++ [(s, f)] ++ [x]).length = L.length + 1 + 1 := by simp
            rw [e2]
            exact ho2
        · -- a smaller name
          go_upto_region 6 with fail
          refine wp_region_lx (fun w' => w' = wr.drew) [] 15 (by kernel_rfl) (by kernel_rfl) ?_
          have HOd := own_keep (S := fun _ => False) HO.out ((Keep.refl (fun _ => False) wr).drew) (fun _ _ h => h)
          have HBd : Below w0.heap.size w0 wr.drew := HB.out.drew
          have e0 : wr.drew.cell? ⟨rd, 0, none⟩ = some (.slice (some ⟨g, 0, none⟩) N vc) := p0
          have e1 : wr.drew.cell? ⟨g, i * 3, none⟩ = some (.string x.1) := d0
          have e2 : wr.drew.cell? ⟨g, i * 3 + 1, none⟩ = some (.slice ax nx cx) := d1
          have e3 : wr.drew.cell? ⟨g, i * 3 + 2, none⟩ = some (.int .i64 (x.2.safe : Int)) := d2
          have k0 : wr.drew.cell? ⟨bf, 0, none⟩ = some (.string s) := f0
          have k1 : wr.drew.cell? ⟨bf, 1, none⟩ = some (.slice a n c) := f1
          have k2 : wr.drew.cell? ⟨bf, 2, none⟩ = some (.int .i64 (f.safe : Int)) := f2
          clear HO HB p0 d0 d1 d2 f0 f1 f2 hflr hBw
          generalize wr.drew = X at *
          have HSa : X = X := rfl
          refine lx_rd 0 ?vc0 (by kernel_rfl) (fun _ _ d _ _ h => by cases d <;> exact h) (by kernel_rfl) HSa rfl rfl rfl (fun w' hS => ?hc0) ?_
          case hc0 => first | (go_simp; rfl) | go_simp
          simp only [List.setIfInBounds_toArray, List.set_cons_zero, List.set_cons_succ]
          refine lx_rd 1 (.bool true) (by kernel_rfl) (fun _ _ d _ _ h => by cases d <;> exact h) (by kernel_rfl) HSa rfl rfl rfl (fun w' hS => ?hc1) ?_
          case hc1 => first | (go_simp; rfl) | go_simp
          simp only [List.setIfInBounds_toArray, List.set_cons_zero, List.set_cons_succ]
          refine lx_rd 2 ?vc2 (by kernel_rfl) (fun _ _ d _ _ h => by cases d <;> exact h) (by kernel_rfl) HSa rfl rfl rfl (fun w' hS => ?hc2) ?_
          case hc2 => first | (go_simp; rfl) | go_simp
          simp only [List.setIfInBounds_toArray, List.set_cons_zero, List.set_cons_succ]
          refine lx_rd 3 ?vc3 (by kernel_rfl) (fun _ _ d _ _ h => by cases d <;> exact h) (by kernel_rfl) HSa rfl rfl rfl (fun w' hS => ?hc3) ?_
          case hc3 => first | (go_simp; rfl) | go_simp
          simp only [List.setIfInBounds_toArray, List.set_cons_zero, List.set_cons_succ]
          refine lx_rd 4 ?vc4 (by kernel_rfl) (fun _ _ d _ _ h => by cases d <;> exact h) (by kernel_rfl) HSa rfl rfl rfl (fun w' hS => ?hc4) ?_
          case hc4 => first | (go_simp; rfl) | go_simp
          simp only [List.setIfInBounds_toArray, List.set_cons_zero, List.set_cons_succ]
          refine lx_rd 5 ?vc5 (by kernel_rfl) (fun _ _ d _ _ h => by cases d <;> exact h) (by kernel_rfl) HSa rfl rfl rfl (fun w' hS => ?hc5) ?_
          case hc5 => first | (go_simp; rfl) | go_simp
          simp only [List.setIfInBounds_toArray, List.set_cons_zero, List.set_cons_succ]
          refine lx_rd 6 (.slice (some ⟨g, 0, none⟩) N vc) (by kernel_rfl) (fun _ _ d _ _ h => by cases d <;> exact h) (by kernel_rfl) HSa rfl rfl rfl (fun w' hS => ?hc6) ?_
          case hc6 => subst hS; first | (go_simp; rfl) | go_simp
          simp only [List.setIfInBounds_toArray, List.set_cons_zero, List.set_cons_succ]
          refine lx_rd 7 ?vc7 (by kernel_rfl) (fun _ _ d _ _ h => by cases d <;> exact h) (by kernel_rfl) HSa rfl rfl rfl (fun w' hS => ?hc7) ?_
          case hc7 => first | (go_simp; rfl) | go_simp
          simp only [List.setIfInBounds_toArray, List.set_cons_zero, List.set_cons_succ]
          refine lx_rd 8 (.pointer (some ⟨g, i * 3, none⟩)) (by kernel_rfl) (fun _ _ d _ _ h => by cases d <;> exact h) (by kernel_rfl) HSa rfl rfl rfl (fun w' hS => ?hc8) ?_
          case hc8 => first | (go_simp; rfl) | go_simp
          simp only [List.setIfInBounds_toArray, List.set_cons_zero, List.set_cons_succ]
          refine lx_rd 9 ?vc9 (by kernel_rfl) (fun _ _ d _ _ h => by cases d <;> exact h) (by kernel_rfl) HSa rfl rfl rfl (fun w' hS => ?hc9) ?_
          case hc9 => first | (go_simp; rfl) | go_simp
          simp only [List.setIfInBounds_toArray, List.set_cons_zero, List.set_cons_succ]
          refine lx_rd 10 (.string x.1) (by kernel_rfl) (fun _ _ d _ _ h => by cases d <;> exact h) (by kernel_rfl) HSa rfl rfl rfl (fun w' hS => ?hc10) ?_
          case hc10 => subst hS; first | (go_simp; rfl) | go_simp
          simp only [List.setIfInBounds_toArray, List.set_cons_zero, List.set_cons_succ]
          refine lx_rd 11 ?vc11 (by kernel_rfl) (fun _ _ d _ _ h => by cases d <;> exact h) (by kernel_rfl) HSa rfl rfl rfl (fun w' hS => ?hc11) ?_
          case hc11 => first | (go_simp; rfl) | go_simp
          simp only [List.setIfInBounds_toArray, List.set_cons_zero, List.set_cons_succ]
          refine lx_rd 12 (.string s) (by kernel_rfl) (fun _ _ d _ _ h => by cases d <;> exact h) (by kernel_rfl) HSa rfl rfl rfl (fun w' hS => ?hc12) ?_
          case hc12 => subst hS; first | (go_simp; rfl) | go_simp
          simp only [List.setIfInBounds_toArray, List.set_cons_zero, List.set_cons_succ]
          refine lx_rd 13 (.bool false) (by kernel_rfl) (fun _ _ d _ _ h => by cases d <;> exact h) (by kernel_rfl) HSa rfl rfl rfl (fun w' hS => ?hc13) ?_
          case hc13 => have hgt := gtr_no hxs; first | (go_simp; rfl) | go_simp
          simp only [List.setIfInBounds_toArray, List.set_cons_zero, List.set_cons_succ]
          refine lx_rd 14 (.bool false) (by kernel_rfl) (fun _ _ d _ _ h => by cases d <;> exact h) (by kernel_rfl) HSa rfl rfl rfl (fun w' hS => ?hc14) ?_
          case hc14 => first | (go_simp; rfl) | go_simp
          simp only [List.setIfInBounds_toArray, List.set_cons_zero, List.set_cons_succ]
          refine lx_nil (by kernel_rfl) ?_
          clear HSa
          have hBX : Below w.heap.size w X := hB0.trans (HBd.mono hB0.size)
          go_wp2_with (first
            | (at_builtin; refine wp_app1 91 113 (.agg #[.string ByteArray.empty, .slice none 0 0, .int .i64 0]) 3 48 Tryz.underlying91 infoFile rfl (by decide) (by decide) rfl _ _ rfl w0.heap.size _ L.length _ rfl HOd #[.string x.1, .slice ax nx cx, .int .i64 (x.2.safe : Int)] rfl (by simp [Value.oneCell']) rfl (by omega) HBd.size ?_; intro v' w1 ho1 hk1 hv1))
          have hB1 : Below w0.heap.size w0 w1 := HBd.trans (hk1.below HBd.size (fun j hj => (HOd.lt j hj).1))
          refine ⟨⟨i + 1, false, L ++ [x], by omega, by go_num, rfl, by simp; omega, ?_, ?_, hB1⟩, by simp [intOf]; omega⟩
          · show (if false = true then _ else (L ++ [x] = k.fs.take (i + 1) ∧ ∀ y ∈ L ++ [x], ltN y.1 s))
            rw [if_neg (by decide)]
            refine ⟨by rw [Htk.out, hL.out], fun y hy => ?_⟩
            rcases List.mem_append.1 hy with h | h
            · exact hsm y h
            · rw [List.mem_singleton] at h
              rw [h]; exact hxs
          · show World.ownsRow _ _ _ _ _ _ _
            rw [ev_snoc, Hsx.out, List.length_append]
            exact ho1
    · obtain rfl : i = N := by omega
      have hcl : ¬ (i : Int) < (i : Int) := by omega
      have hz := hfz wr hBw
      cases dn with
      | true =>
        have hXX := HX.out
        simp only [if_true] at hXX
        rw [List.drop_eq_nil_of_le (by rw [HN.out]; exact Nat.le_refl _), List.append_nil] at hXX
        have hfin := fin wr _ (own_weak (by rw [← hXX]; exact HO.out) hB0.size) hBw
        obtain ⟨av, cv, hv, _⟩ := row_form HO.out
        subst hv
        clear HX hXX HO fin hfd hfz
        go_wp2
        go_end0
        exact ⟨rfl, hfin⟩
      | false =>
        have hXX := HX.out
        simp only [Bool.false_eq_true, if_false] at hXX
        obtain ⟨hL0, hsm⟩ := hXX
        rw [List.take_of_length_le (by rw [HN.out]; exact Nat.le_refl _)] at hL0
        have hPe : L ++ [(s, f)] = P := by
          have h := put_split (f := f) hsm (q := []) (fun y hy => by cases hy)
          rw [List.append_nil, hL0] at h
          rw [← HP.out, h, hL0]
        have HPe : Hid (L ++ [(s, f)] = P) := hPe
        have HOd := HO.out
        clear HX HO hL0 hPe
        go_wp2_with (first
          | (at_builtin; refine wp_app1 91 113 (.agg #[.string ByteArray.empty, .slice none 0 0, .int .i64 0]) 3 48 Tryz.underlying91 infoFile rfl (by decide) (by decide) rfl _ _ rfl w0.heap.size _ L.length _ rfl HOd #[.string s, .slice a n c, .int .i64 (f.safe : Int)] rfl (by simp [Value.oneCell']) rfl (by omega) HB.out.size ?_; intro v' w1 ho1 hk1 hv1; obtain ⟨av, cv, rfl, _⟩ := row_form ho1; have hB1' := HB.out.trans (hk1.below HB.out.size (fun j hj => (HOd.lt j hj).1)); have hBw1' : Below w.heap.size w w1 := hB0.trans (hB1'.mono hB0.size); have g0 := hfd w1 hBw1'; have g1 := hfz w1 hBw1'))
        have hB1 : Below w0.heap.size w0 w1 := HB.out.trans (hk1.below HB.out.size (fun j hj => (HOd.lt j hj).1))
        have hBw1 : Below w.heap.size w w1 := hB0.trans (hB1.mono hB0.size)
        go_end0
        refine ⟨rfl, fin w1 _ (own_weak ?_ hB0.size) hBw1⟩
        have e : P.length = L.length + 1 := by rw [← HPe.out]; simp
        rw [e, ← HPe.out, ev_snoc]
        show World.ownsRow _ _ _ _ _ _ (ev sl' L ++ [.string s, sl' s, .int .i64 (f.safe : Int)])
        rw [Hss.out]
        exact ho1

end Go.Proofs.YtikkieaokfailaaGreatDoor
