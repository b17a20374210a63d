/- Texts of one seat, one behind the other: LkD, LkE. -/
import Derived.Test.YtikkieaokfailaaGreatDoorM11
import Derived.Deep.Slices
import Derived.BigQuiet
import Derived.Deep.QuietTactic
import Derived.Deep.CutBlock
import Derived.Deep.CutRange
/- LogKeeps: the law's own copies, its arguments, and what a log's block tells. -/
namespace Go.Proofs.YtikkieaokfailaaGreatDoor
open Go.ChangeShapes Go.WideShapes Go.ChangeAt Go.RowKit Go.Joins

/-- few: at most 200 bytes, in new memory of its own. -/
theorem few200O (a : Option Addr) (n c : Nat) (xs : List Int) (w : World) (hR : Rd w a n c xs) :
    Calls Tryz.prog 17 #[.slice a n c] w fun e w' => ∃ a' n' c', e = .returned (.slice a' n' c') ∧ n' ≤ 200 ∧ w'.ownsRow w.heap.size 5 1 (.slice a' n' c') n' (bc (xs.take 200)) ∧ Rd w' a' n' c' (xs.take 200) ∧ (∀ ad, a' = some ad → w.heap.size ≤ ad.block) ∧ Below w.heap.size w w' := by
  have hb := hR.bytes.take 200
  go_enter Tryz.func17, Tryz.ntmps17
  go_wp2_with (go_at_call 54; refine (twin_any a n c xs 200 _ hR (by omega)).mono ?_; rintro e w1 ⟨v1, rfl, ho1, hb1⟩)
  go_ret
  obtain ⟨a1, c1, rfl, hr1⟩ := Rd.ofOwn ho1 hb
  refine ⟨a1, _, c1, rfl, by rw [List.length_take]; omega, ho1, hr1, fun ad had => ?_, hb1⟩
  rcases ho1.2 with ⟨e, _⟩ | ⟨g, cap, cur, e, hg, _⟩
  · injection e with e1; rw [e1] at had; cases had
  · injection e with e1; rw [e1] at had; cases had; exact hg
theorem IAr.flat {W : World} {a : Option Addr} {n c : Nat} {zs : List Int} (h : IAr W a n c zs) (h0 : 0 < n) : ∃ b off, a = some ⟨b, off, none⟩ ∧ ∀ j, j < n → W.cell? ⟨b, off + j, none⟩ = some (.int .i64 (zs.getD j 0)) := by
  cases a with
  | none => have := h.nil rfl; have := h.cap; omega
  | some ad =>
    obtain ⟨b, off, spot⟩ := ad
    have e0 := h.cells _ rfl 0 h0
    have hspot : spot = none := by simpa [Addr.add] using World.cell?_spot e0
    subst hspot
    refine ⟨b, off, rfl, fun j hj => ?_⟩
    have := h.cells _ rfl j hj
    rwa [add_flat] at this
theorem tmK (q : Nat) (h0 : 0 < q) (h9 : q ≤ 1000) (z : Int) : ∃ k : Nat, (wrap64 (z.tmod (q : Int) + (q : Int))).tmod (q : Int) = (k : Int) ∧ k < q := by
  have h1 : z.tmod (q : Int) < (q : Int) := Int.tmod_lt_of_pos z (by omega)
  have h2 : -(q : Int) < z.tmod (q : Int) := by
    have : (-z).tmod (q : Int) < (q : Int) := Int.tmod_lt_of_pos (-z) (by omega)
    rw [Int.neg_tmod] at this; omega
  have h3 : wrap64 (z.tmod (q : Int) + (q : Int)) = z.tmod (q : Int) + (q : Int) := by unfold wrap64; omega
  rw [h3, Int.tmod_eq_emod_of_nonneg (by omega)]
  have h4 := Int.emod_nonneg (z.tmod (q : Int) + (q : Int)) (show (q : Int) ≠ 0 by omega)
  have h5 := Int.emod_lt_of_pos (z.tmod (q : Int) + (q : Int)) (show (0 : Int) < (q : Int) by omega)
  exact ⟨((z.tmod (q : Int) + (q : Int)) % (q : Int)).toNat, by omega, by omega⟩
/-- Len, of a log whose block stands. -/
theorem slen_blk (w : World) (lb d most : Nat) (a : Option Addr) (N c : Nat) (ch : Ch) (dn : Bool) (h : w.heap[lb]? = some (.cells (lcs d most (.slice a N c) ch dn) 119 (0, 0))) :
    Calls Tryz.prog 26 #[.pointer (some ⟨lb, 0, none⟩)] w fun e w' => e = .returned (.int .i64 (N : Int)) ∧ w' = w := by
  have q2 : w.cell? ⟨lb, 2, none⟩ = some (.slice a N c) := by rw [cell_of_block h]; rfl
  clear h
  go_enter Tryz.func26, Tryz.ntmps26
  go_wp2
  go_ret
  exact ⟨rfl, rfl⟩
/-- Whatever Open answered, the disk is what it leaves. -/
theorem Opened.dp {w w' : World} {F : Nat → Prop} {d : Nat} {r : Nat × Lg × Dk} {e : Ending} (h : Opened w w' F d r e) : (∃ v, e = .returned v) ∧ Dp w F d r.2.2 w' := by
  by_cases h0 : r.1 = 0
  · obtain ⟨lb, e1, _, F', H', hA, hk, hF, _⟩ := h.yes h0
    obtain ⟨v, hL, _⟩ := hA.ex
    exact ⟨⟨_, e1⟩, F', hL.D, hk, hF⟩
  · obtain ⟨e1, h2⟩ := h.no h0
    exact ⟨⟨_, e1⟩, h2⟩
/-- Append of one row of bytes to the law's row of rows. -/
theorem wp_app1W {w : World} {ops : Array Oper} {rest : List Oper} {o : Oper} {a : Act} {Q : Exit → Act → World → Prop} (hgd : o.guard = none) (s x : Operand)
    (ho : o.op = .call { callee := .builtin .append, args := #[s, x], argTypes := #[30, 30] })
    (base : Nat) (v : Value) (n : Nat) (xs : List Value) (hs : a.eval s = v) (hown : w.ownsRow base 29 1 v n xs) (ao : Option Addr) (m c : Nat)
    (hx : a.eval x = .slice (some ⟨w.heap.size, 0, none⟩) 1 1) (hn : n ≤ 1000000) (hbase : base ≤ w.heap.size)
    (h : ∀ v' w', w'.ownsRow base 29 1 v' (n + 1) (xs ++ [.slice ao m c]) → Keep (fun k => v.ownBlock = some k) w w' → (v'.ownBlock = v.ownBlock ∨ ∃ g, v'.ownBlock = some g ∧ w.heap.size ≤ g) → wpList Tryz.prog ops Q rest (a.put o.dst v') w') : wpList Tryz.prog ops Q (o :: rest) a (w.alloc (.cells #[.slice ao m c] 29)) := by
  refine wpList_plain hgd fun K hK => ?_
  obtain ⟨v', w', hrun, h2, h3, h4⟩ := run_appW o.type hown ao m c hn hbase
  unfold Oper.wp
  simp only [execOp, ho, resolve, invoke, builtin, Sem.run_bind, Sem.run_pure, Result.andThen_ok, List.map_toArray, List.map_cons, List.map_nil, hs, hx, hrun]
  exact hK _ _ (h v' w' h2 h3 h4)

/-- One call of the law, as it lies from cell q of block b on. -/
structure SOpAt (w : World) (b q : Nat) (Do : Int) (ar : Option Addr) (nr cr : Nat) (xs : List Int) (al : Option Addr) (nl cl : Nat) (ls : List (List Int)) (Nn : Int) (ak : Option Addr) (nk ck : Nat) (zs : List Int) : Prop where
  c0 : w.cell? ⟨b, q, none⟩ = some (.int .i64 Do)
  c1 : w.cell? ⟨b, q + 1, none⟩ = some (.slice ar nr cr)
  c2 : w.cell? ⟨b, q + 2, none⟩ = some (.slice al nl cl)
  c3 : w.cell? ⟨b, q + 3, none⟩ = some (.int .i64 Nn)
  c4 : w.cell? ⟨b, q + 4, none⟩ = some (.slice ak nk ck)
  hR : Rd w ar nr cr xs
  hL : RRd w al nl ls
  hN : -9223372036854775808 ≤ Nn ∧ Nn ≤ 9223372036854775807
  hK : IAr w ak nk ck zs
theorem SOpAt.below {w w' : World} {b q : Nat} {Do : Int} {ar : Option Addr} {nr cr : Nat} {xs : List Int} {al : Option Addr} {nl cl : Nat} {ls : List (List Int)} {Nn : Int} {ak : Option Addr} {nk ck : Nat} {zs : List Int} (h : SOpAt w b q Do ar nr cr xs al nl cl ls Nn ak nk ck zs) (hb : Below w.heap.size w w') : SOpAt w' b q Do ar nr cr xs al nl cl ls Nn ak nk ck zs := by
  have t : ∀ i u, w.cell? ⟨b, i, none⟩ = some u → w'.cell? ⟨b, i, none⟩ = some u := fun i u hc => (hb.cell (p := ⟨b, i, none⟩) (World.block_lt_of_cell? w _ hc)).trans hc
  exact ⟨t _ _ h.c0, t _ _ h.c1, t _ _ h.c2, t _ _ h.c3, t _ _ h.c4, h.hR.carry (Nat.le_refl _) hb, h.hL.below hb, h.hN, h.hK.carry hb⟩
structure SORd (w : World) (a : Option Addr) (n c : Nat) : Prop where
  cap : n ≤ c
  most : c ≤ 9223372036854775807
  flat : 0 < n → ∃ b off, a = some ⟨b, off, none⟩ ∧ ∀ j, j < n → ∃ Do ar nr cr xs al nl cl ls Nn ak nk ck zs, SOpAt w b (off + j * 5) Do ar nr cr xs al nl cl ls Nn ak nk ck zs

theorem cellsLop : Tryz.prog.cellsOf 33 = 5 := by kernel_rfl
set_option maxRecDepth 100000 in
set_option maxHeartbeats 2000000 in
theorem open_lops {H : Type} {enc : TypeId × Value → H} {W : World} {b0 : Nat} {v : Value} {d : DataW H} {p : List MemPlace}
    (hv : Value.okWide Tryz.prog W .any b0 22 v) (h : DataW.Trod enc Tryz.prog W 0 (fun _ => true) true 22 v d p) : ∃ a n c, v = .slice a n c ∧ SORd W a n c := by
  obtain ⟨a, n, c, rfl⟩ := okWide_slice Tryz.underlying22 hv
  refine ⟨a, n, c, rfl, ?_⟩
  obtain ⟨fuel, hf⟩ := h
  rcases Go.Deep.open_slice Tryz.underlying22 hf with ⟨hcs, _⟩ | ⟨x, l, cc, m, k, D, Pl, hcs, hb, hl, hm, hmm, _, hx⟩
  · simp [Value.cells] at hcs
    obtain ⟨rfl, rfl, rfl⟩ := hcs
    exact ⟨Nat.le_refl _, by omega, fun h => by omega⟩
  · simp [Value.cells] at hcs
    obtain ⟨rfl, rfl, rfl⟩ := hcs
    simp only [if_true] at hmm
    subst hmm
    have each : ∀ j, j < n → ∃ (Do : Int) (ar : Option Addr) (nr cr : Nat) (xs : List Int) (al : Option Addr) (nl cl : Nat) (ls : List (List Int)) (Nn : Int) (ak : Option Addr) (nk ck : Nat) (zs : List Int), W.cell? (x.add (j * 5)) = some (.int .i64 Do) ∧ W.cell? (x.add (j * 5 + 1)) = some (.slice ar nr cr) ∧ W.cell? (x.add (j * 5 + 2)) = some (.slice al nl cl) ∧ W.cell? (x.add (j * 5 + 3)) = some (.int .i64 Nn) ∧ W.cell? (x.add (j * 5 + 4)) = some (.slice ak nk ck) ∧ Rd W ar nr cr xs ∧ RRd W al nl ls ∧ (-9223372036854775808 ≤ Nn ∧ Nn ≤ 9223372036854775807) ∧ IAr W ak nk ck zs := by
      intro j hj
      obtain ⟨cs', h1, h2⟩ := hx j (by omega)
      rw [cellsLop] at h1
      obtain ⟨_, hlen, hcell⟩ := World.cells?_some h1
      obtain ⟨ws, q, hq, hxy, _, hxl, hfs⟩ := DataW.trod_struct Tryz.underlying33 h2
      match ws, hxl, cs', hlen with
      | [y0, y1, y2, y3, y4], _, [v0, v1, v2, v3, v4], _ =>
        have f0 : DataW.trod enc Tryz.prog W 0 (fun _ => true) true q 3 [v0] = some y0 := by simpa [Value.cells, cellsInt] using hfs 0 _ rfl
        have f1 : DataW.trod enc Tryz.prog W 0 (fun _ => true) true q 29 [v1] = some y1 := by simpa [Value.cells, cellsBytes] using hfs 1 _ rfl
        have f2 : DataW.trod enc Tryz.prog W 0 (fun _ => true) true q 30 [v2] = some y2 := by simpa [Value.cells, cellsRows] using hfs 2 _ rfl
        have f3 : DataW.trod enc Tryz.prog W 0 (fun _ => true) true q 3 [v3] = some y3 := by simpa [Value.cells, cellsInt] using hfs 3 _ rfl
        have f4 : DataW.trod enc Tryz.prog W 0 (fun _ => true) true q 31 [v4] = some y4 := by simpa [Value.cells, cellsInts] using hfs 4 _ rfl
        obtain ⟨K0, e0, _, w0⟩ := DataW.trod_int Tryz.underlying3 f0
        obtain ⟨K3, e3, _, w3⟩ := DataW.trod_int Tryz.underlying3 f3
        obtain ⟨ar, nr, cr, xs, e1, hR⟩ := rd_of_cells f1
        obtain ⟨al, nl, cl, ls, e2, hL⟩ := rrd_of_cells f2
        obtain ⟨ak, nk, ck, zs, e4, hK⟩ := iar_of_cells f4
        simp only [List.cons.injEq, and_true] at e0 e3
        subst e0 e1 e2 e3 e4
        have b3 := bounds_i64 w3
        have c0 := hcell 0 (by omega)
        have c1 := hcell 1 (by omega)
        have c2 := hcell 2 (by omega)
        have c3 := hcell 3 (by omega)
        have c4 := hcell 4 (by omega)
        rw [Go.Deep.add_add] at c0 c1 c2 c3 c4
        exact ⟨K0, ar, nr, cr, xs, al, nl, cl, ls, K3, ak, nk, ck, zs, by simpa using c0, by simpa using c1, by simpa using c2, by simpa using c3, by simpa using c4, hR, hL, b3, hK⟩
    refine ⟨hl, hm, fun h0 => ?_⟩
    obtain ⟨b, off, spot⟩ := x
    obtain ⟨_, _, _, _, _, _, _, _, _, _, _, _, _, _, e0, _⟩ := each 0 h0
    have hspot : spot = none := by simpa [Addr.add] using World.cell?_spot e0
    subst hspot
    refine ⟨b, off, rfl, fun j hj => ?_⟩
    obtain ⟨Do, ar, nr, cr, xs, al, nl, cl, ls, Nn, ak, nk, ck, zs, e0, e1, e2, e3, e4, e7, e8, e9, e10⟩ := each j hj
    rw [add_flat] at e0 e1 e2 e3 e4
    simp only [← Nat.add_assoc] at e0 e1 e2 e3 e4
    exact ⟨Do, ar, nr, cr, xs, al, nl, cl, ls, Nn, ak, nk, ck, zs, ⟨e0, e1, e2, e3, e4, e7, e8, e9, e10⟩⟩

/-- The disk alone is turned. -/
theorem LogAt.dp {w w' : World} {F H : Nat → Prop} {lb d : Nat} {l : Lg} {k k' : Dk} (h : LogAt w F H lb d l k) (hp : Dp w F d k' w') : Lgp w F H lb d l k' w' := by
  obtain ⟨F', hD, hk, hF⟩ := hp
  obtain ⟨v, hL, hR⟩ := h.ex
  have hl := hL.lt
  have hHl := h.lt
  have hnf : ∀ i, i < w.heap.size → ¬ F i → ¬ F' i := fun i h1 h2 h3 => (hF i h3).elim h2 (fun h4 => by omega)
  exact ⟨F', H, ⟨⟨v, ⟨(hk.block lb hl hL.nf).trans hL.blk, hD, hnf lb hl hL.nf⟩, hR.keep hk h.hf (fun _ h => h)⟩, fun i hi => hnf i (hHl i hi) (h.hf i hi), h.hl, fun i hi => Nat.lt_of_lt_of_le (hHl i hi) hk.size, h.pf.next (hk.mono (fun i hi => Or.inl hi)) hF, h.ph⟩, hk.mono (fun i hi => Or.inl hi), hF, fun i hi => Or.inl hi⟩
theorem Rd.strN {w : World} {a : Option Addr} {n c : Nat} {xs : List Int} (h : Rd w a n c xs) : ∀ k, (convert 29 9 (.slice a n c)).run Tryz.prog (w.drewN k) = .ok (.string (strOfNums xs)) (w.drewN k) := fun k => (rd_drewN h k).string
/-- A row of records, its blocks kept apart. -/
theorem RcA.cell {w : World} {A : Nat → Prop} {al : Option Addr} {N cl : Nat} {rs : List (List Int)} (h : RcA w A (.slice al N cl) rs) (hN : rs.length = N) (j : Nat) (hj : j < N) : ∃ g a n c, al = some ⟨g, 0, none⟩ ∧ w.cell? ⟨g, j, none⟩ = some (.slice a n c) ∧ Rd w a n c (rs.getD j []) := by
  obtain ⟨⟨vs, ov, hvs⟩, _⟩ := h
  obtain ⟨r, hr⟩ : ∃ r, rs[j]? = some r := ⟨_, List.getElem?_eq_getElem (by omega)⟩
  obtain ⟨u, h1, h2, _, h4⟩ := hvs j r hr
  obtain ⟨a, c, rfl, h5⟩ := Rd.ofOwn h2 h4
  rcases ov.2 with ⟨e, h0⟩ | ⟨g, cap, cur, e, _⟩
  · rw [hN] at h0; omega
  · injection e with e1
    subst e1
    have hc := ov.cells (g := g) rfl j _ h1
    rw [add_flat, Nat.zero_add] at hc
    refine ⟨g, a, _, c, rfl, hc, ?_⟩
    rw [List.getD_eq_getElem?_getD, hr]
    exact h5

theorem iar_of_trod {H : Type} {enc : TypeId × Value → H} {W : World} {a : Option Addr} {n c : Nat} {d : DataW H} {ps : List MemPlace}
    (h : DataW.Trod enc Tryz.prog W 0 (fun _ => true) true 31 (.slice a n c) d ps) : ∃ zs, IAr W a n c zs := by
  obtain ⟨fuel, hf⟩ := h
  obtain ⟨_, _, _, zs, hv, hr⟩ := iar_of_cells (v := .slice a n c) (by simpa [Value.cells] using hf)
  cases hv
  exact ⟨zs, hr⟩

end Go.Proofs.YtikkieaokfailaaGreatDoor

/- LogKeeps: the law's walk. -/
namespace Go.Proofs.YtikkieaokfailaaGreatDoor
open Go.RowKit Go.Joins

set_option maxRecDepth 100000 in
set_option maxHeartbeats 8000000 in
theorem logKeeps_any (a0 : Option Addr) (n0 c0 : Nat) (a1 : Option Addr) (n1 c1 : Nat) (zs1 : List Int) (a2 : Option Addr) (n2 c2 : Nat) (zs2 : List Int) (W : World) (hO : SORd W a0 n0 c0) (hI1 : IAr W a1 n1 c1 zs1) (hI2 : IAr W a2 n2 c2 zs2) (hP : Pw W) :
    Calls Tryz.prog 5 #[.slice a0 n0 c0, .slice a1 n1 c1, .slice a2 n2 c2] W fun e w' => e = .returned (.bool true) ∧ Below W.heap.size W w' := by
  have hN := new_ok 100000 (by omega) W
  have hpl := hP.at
  have hnm : n0 ≤ 9223372036854775807 := by have := hO.cap; have := hO.most; omega
  have hnm2 : n2 ≤ 9223372036854775807 := by have := hI2.cap; have := hI2.most; omega
  obtain ⟨kN, HkN⟩ : ∃ kN, Hid (newK 100000 = kN) := ⟨_, rfl⟩
  have hon := open_new 64 100000
  have hKn := KI.new
  rw [HkN.out] at hN hon hKn
  have hkf : kN.fs.length ≤ 1000 := by rw [← HkN.out]; decide
  have hks : kN.steps = 0 := by rw [← HkN.out]; rfl
  have hku : used kN.fs ≤ 900000 := by rw [← HkN.out]; decide
  have Hop : Hid (openL 64 kN = (0, lg1 64, kN)) := hon
  have HKn : Hid (KI (lg1 64) kN [] 0) := hKn
  clear hon hKn
  go_enter Tryz.func5, Tryz.ntmps5
  go_upto_region 2 with (first
    | (go_at_call 14; refine hN.mono ?_; rintro e w1 ⟨d, rfl, ⟨F1, hD1, hF1⟩, hb1⟩))
  have hop := sopen_any w1 F1 d 64 kN (by omega) (by omega) hD1 (hP.below hb1) (fun i hi => by have := hF1 i hi; omega) hkf (by omega) hku
  rw [Hop.out] at hop
  go_upto_region 3 with (first
    | (go_at_call 20; refine hop.mono ?_; rintro e w2 ho; obtain ⟨lb, rfl, hlb, F2, H2, hA2, hk2, hF2, hH2⟩ := ho.yes rfl))
  clear ho hop hkf hku Hop hN
  have hB2 : Below W.heap.size W w2 := hb1.trans (hk2.low hb1.size hF1)
  have hwk := swakes_any w2 (hP.below hB2)
  go_upto_block 0 with (first
    | (go_at_call 11; refine hwk.mono ?_; rintro e w3 ⟨rfl, hb3⟩))
  have hB3 : Below W.heap.size W w3 := hB2.trans (hb3.mono hB2.size)
  have hF2' : ∀ i, F2 i → W.heap.size ≤ i := fun i hi => (hF2 i hi).elim (hF1 i) (fun h => by have := hb1.size; omega)
  have hH2' : ∀ i, H2 i → W.heap.size ≤ i := fun i hi => by have := hH2 i hi; have := hb1.size; omega
  have hlbW : W.heap.size ≤ lb := by have := hb1.size; omega
  have hA3 := hA2.below hb3
  clear hA2 hb3 hwk hB2 hk2 hF2 hH2 hlb hD1 hF1 hb1
  go_cut [10, 11, 12, 13] from 38 to 100 (fun _ s11 s12 _ wx => ∃ (N safe : Nat) (k : Dk) (all : List (List Int)) (F A : Nat → Prop) (al : Option Addr) (cl : Nat), s11 = .slice al N cl ∧ s12 = .int .i64 safe ∧ N ≤ 120 ∧ k.steps ≤ 300 ∧ Hid (all.length = N) ∧ Hid (KF k all safe) ∧ Hid (DiskAt wx F d k) ∧ Hid (∀ j, F j → W.heap.size ≤ j) ∧ Hid (RcA wx A (.slice al N cl) all) ∧ Hid (∀ j, A j → W.heap.size ≤ j ∧ j < wx.heap.size ∧ ¬ F j) ∧ Hid (Below W.heap.size W wx))
  case first =>
    go_wp2_with fail
    go_loopw [10, 11, 12, 13] (fun s10 s11 s12 s13 wr => ∃ (i N safe : Nat) (l : Lg) (k : Dk) (all : List (List Int)) (F H A : Nat → Prop) (al : Option Addr) (cl : Nat), s10 = .int .i64 0 ∧ s11 = .slice al N cl ∧ s12 = .int .i64 safe ∧ s13 = .int .i64 i ∧ i ≤ n0 ∧ i ≤ 120 ∧ N ≤ i ∧ k.steps ≤ 2 * i ∧ Hid (all.length = N) ∧ Hid (KI l k all safe) ∧ Hid (LogAt wr F H lb d l k) ∧ Hid (∀ j, F j → W.heap.size ≤ j) ∧ Hid (∀ j, H j → W.heap.size ≤ j) ∧ Hid (RcA wr A (.slice al N cl) all) ∧ Hid (∀ j, A j → W.heap.size ≤ j ∧ j < wr.heap.size ∧ ¬ F j ∧ ¬ H j ∧ j ≠ lb) ∧ Hid (Below W.heap.size W wr)) (fun _ _ _ s13 _ => 120 - (intOf s13).toNat)
    case atStart => exact ⟨0, 0, 0, _, kN, [], F2, H2, fun _ => False, none, 0, rfl, rfl, rfl, rfl, by omega, by omega, by omega, by omega, rfl, HKn.out, hA3, hF2', hH2', rcA_nil _ _, fun j hj => hj.elim, hB3⟩
    case round =>
      clear HKn hA3 hF2' hH2' hB3
      obtain ⟨i, N, safe, l, k, all, F, H, A, al, cl, rfl, rfl, rfl, rfl, hin, hi120, hNi, hst, HN, HK, HA, HF, HH, HR, HD, HB⟩ := hrel
      obtain ⟨v0, hL0, _⟩ := HA.out.ex
      have hFl := hL0.D.lt
      have hHl := HA.out.lt
      have hll := hL0.lt
      have hDk := hL0.D
      obtain ⟨hok, hfs⟩ := HK.out.ok (by rw [HN.out]; omega)
      clear hL0
      by_cases hlt : i < n0 ∧ i < 120
      · have hcl : (i : Int) < (n0 : Int) := by omega
        have hcl120 : (i : Int) < 120 := by omega
        obtain ⟨b, off, rfl, hce⟩ := hO.flat (by omega)
        obtain ⟨Do, ar, nr, cr, xs, la, nl, lc, ls, Nn, ak, nk, ck, zs, hopW⟩ := hce i hlt.1
        clear hce
        have hopr := hopW.below HB.out
        have q0 := hopr.c0
        have q1 := hopr.c1
        have q3 := hopr.c3
        by_cases d6 : Do = 6
        · subst d6
          obtain ⟨q, hq0, hq40⟩ := tmK 40 (by omega) (by omega) Nn
          have hq : (wrap64 (Nn.tmod 40 + 40)).tmod 40 = (q : Int) := hq0
          obtain ⟨_, f2, f3⟩ := HK.out.fuse q (by omega)
          have hfu := fuse_any d F k (q : Int) (by omega) wr hDk
          have HE : Hid (KI l (fuseK k (q : Int)).2 all safe) := f2
          have hst' : (fuseK k (q : Int)).2.steps ≤ 2 * (i + 1) := by omega
          obtain ⟨P, HPq⟩ : ∃ P, fuseK k (q : Int) = P := ⟨_, rfl⟩
          rw [HPq] at hfu HE hst'
          clear HPq f2 f3 hq0 hopr
          go_upto_region 12 with (first
            | (go_at_call 21; refine hfu.mono ?_; rintro e w5 ⟨rfl, hp5⟩))
          obtain ⟨F6, H6, hA6, hk6, hF6, hH6⟩ := HA.out.dp hp5
          have h5s := HB.out.size
          have h6s := hk6.size
          have hB6 : Below W.heap.size W w5 := HB.out.trans (hk6.low HB.out.size (fun j hj => by
            rcases hj with hj | hj | hj
            · exact HF.out j hj
            · exact HH.out j hj
            · omega))
          have q0' := (hopW.below hB6).c0
          clear q0 q1 q3 hfu hp5
          go_wp2
          go_roundw
          case rel => exact ⟨i + 1, N, safe, l, P.2, all, F6, H6, A, al, cl, rfl, rfl, rfl, by go_num, by omega, by omega, by omega, hst', HN.out, HE.out, hA6, fun j hj => (hF6 j hj).elim (HF.out j) (fun h => by omega), fun j hj => (hH6 j hj).elim (HH.out j) (fun h => by omega), HR.out.keep hk6 (fun j hj hs => by
              obtain ⟨_, _, n1, n2, n3⟩ := HD.out j hj
              rcases hs with hs | hs | hs
              · exact n1 hs
              · exact n2 hs
              · exact n3 hs) (fun _ h => h), fun j hj => by
              obtain ⟨p1, p2, n1, n2, n3⟩ := HD.out j hj
              exact ⟨p1, by omega, fun h => (hF6 j h).elim n1 (fun h => by omega), fun h => (hH6 j h).elim n2 (fun h => by omega), n3⟩, hB6⟩
          case measure => simp [intOf]; omega
        · by_cases d1 : Do = 1
          · subst d1
            have hfew := few200O ar nr cr xs wr hopr.hR
            have hrl : (xs.take 200).length ≤ 200 := by rw [List.length_take]; omega
            have hbr : Bd (xs.take 200) := hopr.hR.bytes.take 200
            obtain ⟨hs2, hcs⟩ := HK.out.app (by rw [HN.out]; omega) (xs.take 200) hrl hbr
            have hap := fun w hA a' n' c' hR' hRF => sappend_any w F H lb d l k hA hok (by omega) (by omega) a' n' c' (xs.take 200) hR' hRF
            have hfw := fun w (hb : Below W.heap.size W w) => few200O ar nr cr xs w (hopW.below hb).hR
            obtain ⟨r, Hr⟩ : ∃ r, Hid (xs.take 200 = r) := ⟨_, rfl⟩
            rw [Hr.out] at hfew hs2 hcs hrl hbr
            simp only [Hr.out] at hap hfw
            obtain ⟨P, HPq⟩ : ∃ P, appendT l k r = P := ⟨_, rfl⟩
            rw [HPq] at hs2 hcs
            simp only [HPq] at hap
            obtain ⟨en, l', k'⟩ := P
            dsimp only at hap hs2 hcs
            have HC : Hid ((en = 0 ∧ KI l' k' (all ++ [r]) safe) ∨ (en = 13 ∧ KF k' (all ++ [r]) safe)) := hcs
            have hen : en = 0 ∨ en = 13 := hcs.elim (fun h => Or.inl h.1) (fun h => Or.inr h.1)
            clear HPq hcs hopr
            go_upto_region 14 with (first
              | (go_at_call 17; refine hfew.mono ?_; rintro e w5 ⟨a5, n5, c5, rfl, hn5, _, hr5, hg5, hb5⟩)
              | (go_at_call 22; refine (hap w5 (HA.out.below hb5) a5 n5 c5 hr5 (fun ad had => ⟨fun hf => by have := hFl _ hf; have := hg5 ad had; omega, fun e => by have := hg5 ad had; omega⟩)).mono ?_; rintro e w6 ⟨rfl, F6, H6, hA6, hk6, hF6, hH6⟩))
            have h0s := HB.out.size
            have h5s := hb5.size
            have h6s := hk6.size
            have hB5 : Below W.heap.size W w5 := HB.out.trans (hb5.mono h0s)
            have hB6 : Below W.heap.size W w6 := hB5.trans (hk6.low hB5.size (fun j hj => by
              rcases hj with hj | hj | hj
              · exact HF.out j hj
              · exact HH.out j hj
              · omega))
            have HR6 : RcA w6 A (.slice al N cl) all := (HR.out.keep (S := fun _ => False) (Keep.ofBelow hb5) (fun _ _ h => h) (fun _ h => h)).keep hk6 (fun j hj hs => by
              obtain ⟨_, _, m1, m2, m3⟩ := HD.out j hj
              rcases hs with hs | hs | hs
              · exact m1 hs
              · exact m2 hs
              · exact m3 hs) (fun _ h => h)
            have hD6 : ∀ j, A j → W.heap.size ≤ j ∧ j < wr.heap.size ∧ ¬ F6 j ∧ ¬ H6 j ∧ j ≠ lb := fun j hj => by
              obtain ⟨p1, p2, m1, m2, m3⟩ := HD.out j hj
              exact ⟨p1, p2, fun h => (hF6 j h).elim m1 (fun h => by omega), fun h => (hH6 j h).elim m2 (fun h => by omega), m3⟩
            obtain ⟨v6, hL6, _⟩ := hA6.ex
            have hF6l := hL6.D.lt
            have hH6l := hA6.lt
            have hlb6 := hL6.lt
            clear hL6
            have q1' := (hopW.below hB6).c1
            have hfew6 := hfw w6 hB6
            clear hfew hap hfw q0 q1 q3
            go_upto_region 15 with (first
              | (go_at_call 17; refine hfew6.mono ?_; rintro e w7 ⟨a7, n7, c7, rfl, hn7, o7, hr7, hg7, hb7⟩; obtain ⟨⟨vs, ov, hvs⟩, hvo⟩ := HR6.keep (S := fun _ => False) (H' := A) (Keep.ofBelow hb7) (fun _ _ h => h) (fun _ h => h); have ovN := ov; rw [HN.out] at ovN)
              | (at_builtin; refine wp_app1W rfl (.tmp 78) (.tmp 85) rfl 0 (.slice al N cl) N vs rfl ovN a7 n7 c7 rfl (by omega) (Nat.zero_le _) ?_; intro v8 w8 o8 hk8 hwh8; obtain ⟨a8, c8, rfl⟩ := own_sl o8))
            have h7s := hb7.size
            have h8s := hk8.size
            have hAs : ∀ j, (Value.slice al N cl).ownBlock = some j → A j := hvo
            have hB7 : Below W.heap.size W w7 := hB6.trans (hb7.mono hB6.size)
            have hB8 : Below W.heap.size W w8 := hB7.trans (hk8.low hB7.size (fun j hj => (hD6 j (hAs j hj)).1))
            have hA8 : LogAt w8 F6 H6 lb d l' k' := (hA6.below hb7).keep hk8 (fun j hj hs => (hD6 j (hAs j hs)).2.2.1 hj) (fun j hj hs => (hD6 j (hAs j hs)).2.2.2.1 hj) (fun hs => (hD6 _ (hAs _ hs)).2.2.2.2 rfl) (fun hs => by have := (hD6 _ (hAs _ hs)).1; omega)
            obtain ⟨A8, hA8d⟩ : ∃ A8 : Nat → Prop, A8 = (fun j => A j ∨ (w6.heap.size ≤ j ∧ j < w8.heap.size)) := ⟨_, rfl⟩
            have hx7 : r.length = n7 := hr7.len
            have hR8 : RcA w8 A8 (.slice a8 (N + 1) c8) (all ++ [r]) := by
              refine RcA.app (vs := vs) (u := .slice a7 n7 c7) ov (fun i r hr => ?_) (by rw [HN.out]; exact o8) hk8 (by rw [hx7]; exact own_weak o7 (Nat.zero_le _)) (fun g hg => ?_) hbr (fun g hg => ?_)
              · obtain ⟨u2, m1, m2, m3, m4⟩ := hvs i r hr
                exact ⟨u2, m1, m2, fun g hg => by rw [hA8d]; exact Or.inl (m3 g hg), m4⟩
              · rw [hA8d]
                have := o7.lt g hg
                exact Or.inr ⟨this.1, by omega⟩
              · rcases hwh8 with h9 | ⟨g9, h9, h10⟩
                · rw [hA8d]
                  exact Or.inl (hAs g (by rw [← h9]; exact hg))
                · rw [h9] at hg
                  injection hg with hg
                  subst hg
                  rw [hA8d]
                  refine Or.inr ⟨by omega, ?_⟩
                  obtain ⟨cur, e⟩ := own_blkT o8 h9
                  exact (Array.getElem?_eq_some_iff.1 e).1
            have hD8 : ∀ j, A8 j → W.heap.size ≤ j ∧ j < w8.heap.size ∧ ¬ F6 j ∧ ¬ H6 j ∧ j ≠ lb := fun j hj => by
              rw [hA8d] at hj
              rcases hj with hj | ⟨h1, h2⟩
              · obtain ⟨p1, p2, m1, m2, m3⟩ := hD6 j hj
                exact ⟨p1, by omega, m1, m2, m3⟩
              · have := hB6.size
                exact ⟨by omega, h2, fun h => by have := hF6l j h; omega, fun h => by have := hH6l j h; omega, by omega⟩
            have q0' := (hopW.below hB8).c0
            have hNl : (all ++ [r]).length = N + 1 := by rw [List.length_append, HN.out]; rfl
            have HNl : Hid ((all ++ [r]).length = N + 1) := hNl
            have HR8 : Hid (RcA w8 A8 (.slice a8 (N + 1) c8) (all ++ [r])) := hR8
            have HA8 : Hid (LogAt w8 F6 H6 lb d l' k') := hA8
            clear hr5 hr7 hfew6 hA6 HR6 hR8 hA8 ov ovN hvs o7 o8 hwh8 hk8 hk6 hNl hx7 hD6 hA8d q1'
            rcases hen with rfl | rfl
            · go_wp2
              go_roundw
              case rel => exact ⟨i + 1, N + 1, safe, l', k', all ++ [r], F6, H6, A8, a8, c8, rfl, rfl, rfl, by go_num, by omega, by omega, by omega, by omega, HNl.out, HC.out.elim (fun h => h.2) (fun h => absurd h.1 (by decide)), HA8.out, fun j hj => (hF6 j hj).elim (HF.out j) (fun h => by omega), fun j hj => (hH6 j hj).elim (HH.out j) (fun h => by omega), HR8.out, hD8, hB8⟩
              case measure => simp [intOf]; omega
            · go_wp2
              go_meet
              obtain ⟨v9, hL9, _⟩ := HA8.out.ex
              exact ⟨N + 1, safe, k', all ++ [r], F6, A8, a8, c8, rfl, rfl, by omega, by omega, HNl.out, HC.out.elim (fun h => absurd h.1 (by decide)) (fun h => h.2), hL9.D, fun j hj => (hF6 j hj).elim (HF.out j) (fun h => by omega), HR8.out, fun j hj => ⟨(hD8 j hj).1, (hD8 j hj).2.1, (hD8 j hj).2.2.1⟩, hB8⟩
          · by_cases d2 : Do = 2
            · subst d2
              have hcm := scommit_any wr F H lb d l k HA.out hok (by omega) (by omega)
              obtain ⟨hs2, hcs⟩ := HK.out.commit (by rw [HN.out]; omega)
              obtain ⟨P, HPq⟩ : ∃ P, commitL l k = P := ⟨_, rfl⟩
              rw [HPq] at hs2 hcs hcm
              obtain ⟨en, l', k'⟩ := P
              dsimp only at hcm hs2 hcs
              have HC : Hid ((en = 0 ∧ KI l' k' all all.length) ∨ (en = 13 ∧ KF k' all safe)) := hcs
              have hen : en = 0 ∨ en = 13 := hcs.elim (fun h => Or.inl h.1) (fun h => Or.inr h.1)
              clear HPq hcs hopr q1 q3
              go_upto_region 17 with (first
                | (go_at_call 23; refine hcm.mono ?_; rintro e w6 ⟨rfl, F6, H6, hA6, hk6, hF6, hH6⟩))
              have h0s := HB.out.size
              have h6s := hk6.size
              have hB6 : Below W.heap.size W w6 := HB.out.trans (hk6.low HB.out.size (fun j hj => by
                rcases hj with hj | hj | hj
                · exact HF.out j hj
                · exact HH.out j hj
                · omega))
              have HR6 : Hid (RcA w6 A (.slice al N cl) all) := HR.out.keep hk6 (fun j hj hs => by
                obtain ⟨_, _, m1, m2, m3⟩ := HD.out j hj
                rcases hs with hs | hs | hs
                · exact m1 hs
                · exact m2 hs
                · exact m3 hs) (fun _ h => h)
              have hD6 : ∀ j, A j → W.heap.size ≤ j ∧ j < w6.heap.size ∧ ¬ F6 j ∧ ¬ H6 j ∧ j ≠ lb := fun j hj => by
                obtain ⟨p1, p2, m1, m2, m3⟩ := HD.out j hj
                exact ⟨p1, by omega, fun h => (hF6 j h).elim m1 (fun h => by omega), fun h => (hH6 j h).elim m2 (fun h => by omega), m3⟩
              have HA6 : Hid (LogAt w6 F6 H6 lb d l' k') := hA6
              clear hA6 hk6 hcm
              rcases hen with rfl | rfl
              · have HKn : Hid (KI l' k' all N) := by
                  have := HC.out.elim (fun h => h.2) (fun h => absurd h.1 (by decide))
                  rw [HN.out] at this
                  exact this
                go_wp2
                go_roundw
                case rel => exact ⟨i + 1, N, N, l', k', all, F6, H6, A, al, cl, rfl, rfl, rfl, by go_num, by omega, by omega, by omega, by omega, HN.out, HKn.out, HA6.out, fun j hj => (hF6 j hj).elim (HF.out j) (fun h => by omega), fun j hj => (hH6 j hj).elim (HH.out j) (fun h => by omega), HR6.out, hD6, hB6⟩
                case measure => simp [intOf]; omega
              · go_wp2
                go_meet
                obtain ⟨v9, hL9, _⟩ := HA6.out.ex
                exact ⟨N, safe, k', all, F6, A, al, cl, rfl, rfl, by omega, by omega, HN.out, HC.out.elim (fun h => absurd h.1 (by decide)) (fun h => h.2), hL9.D, fun j hj => (hF6 j hj).elim (HF.out j) (fun h => by omega), HR6.out, fun j hj => ⟨(hD6 j hj).1, (hD6 j hj).2.1, (hD6 j hj).2.2.1⟩, hB6⟩
            · clear hopr q1 q3
              go_wp2
              go_roundw
              case rel => exact ⟨i + 1, N, safe, l, k, all, F, H, A, al, cl, rfl, rfl, rfl, by go_num, by omega, by omega, by omega, by omega, HN.out, HK.out, HA.out, HF.out, HH.out, HR.out, HD.out, HB.out⟩
              case measure => simp [intOf]; omega
      · have hend : ¬ (i : Int) < (n0 : Int) ∨ ((i : Int) < (n0 : Int) ∧ ¬ (i : Int) < 120) := by omega
        have HKF : Hid (KF k all safe) := HK.out.c.kf (by rw [HN.out]; omega)
        rcases hend with hcl | ⟨hcl, hcl120⟩ <;> (
          go_wp2
          go_meet
          exact ⟨N, safe, k, all, F, A, al, cl, rfl, rfl, by omega, by omega, HN.out, HKF.out, hDk, HF.out, HR.out, fun j hj => ⟨(HD.out j hj).1, (HD.out j hj).2.1, (HD.out j hj).2.2.1⟩, HB.out⟩)
  case rest =>
  obtain ⟨N, safe, k, all, F, A, al, cl, rfl, rfl, hN120, hst, HN, HK, HDk, HF, HR, HD, HB⟩ := hcut
  obtain ⟨wr, hwr⟩ : ∃ wr, wr = wc := ⟨_, rfl⟩
  subst hwr
  clear HKn hA3 hF2' hH2' hB3
  have hfl := HK.out.fl
  have hin := ints_any a1 n1 c1 zs1 wr (hI1.carry HB.out)
  have hRs := fun w hb v g hI (hg : wr.heap.size ≤ g) => restart_any d F k g v (zs1.take 30) (by omega) w (HDk.out.below hb) hI (fun _ hf => by have := HDk.out.lt g hf; omega)
  have HRst := fun hg => HK.out.rest (zs1.take 30) hg
  have hof : (restK k (zs1.take 30)).off = false := rfl
  have hfu : (restK k (zs1.take 30)).fu = none := rfl
  have hs0 : (restK k (zs1.take 30)).steps = k.steps := rfl
  obtain ⟨k2, Hk2⟩ : ∃ k2, restK k (zs1.take 30) = k2 := ⟨_, rfl⟩
  rw [Hk2] at HRst hof hfu hs0
  simp only [Hk2] at hRs
  clear Hk2
  go_upto_block 2 with (first
    | (go_at_call 25; refine hin.mono ?_; rintro e wa ⟨va, ga, rfl, hIa, hga, hba⟩)
    | (go_at_call 24; refine (hRs wa hba va ga hIa hga).mono ?_; rintro e wb ⟨rfl, Fb, hDb, hkb, hFb⟩))
  have HKb : Hid (KF k2 all safe) := HRst hDb.good
  have h0s := HB.out.size
  have has := hba.size
  have hbs := hkb.size
  have hBa : Below W.heap.size W wa := HB.out.trans (hba.mono h0s)
  have hBb : Below W.heap.size W wb := hBa.trans (hkb.low hBa.size HF.out)
  have HRb : Hid (RcA wb A (.slice al N cl) all) := (HR.out.keep (S := fun _ => False) (Keep.ofBelow hba) (fun _ _ h => h) (fun _ h => h)).keep hkb (fun j hj => (HD.out j hj).2.2) (fun _ h => h)
  have HDb : Hid (∀ j, A j → W.heap.size ≤ j ∧ j < wb.heap.size ∧ ¬ Fb j) := fun j hj => by
    obtain ⟨p1, p2, m1⟩ := HD.out j hj
    exact ⟨p1, by omega, fun h => (hFb j h).elim m1 (fun h => by omega)⟩
  have HFb : Hid (∀ j, Fb j → W.heap.size ≤ j) := fun j hj => (hFb j hj).elim (HF.out j) (fun h => by omega)
  have HDkb : Hid (DiskAt wb Fb d k2) := hDb
  clear hin hRs HRst HK HDk HF HR HD HB hIa hba hkb hFb hDb hBa
  go_cut [14] from 105 to 127 (fun _ wx => ∃ (k : Dk) (F : Nat → Prop), k.steps ≤ 400 ∧ Hid (k.off = false) ∧ Hid (k.fu = none) ∧ Hid (KF k all safe) ∧ Hid (DiskAt wx F d k) ∧ Hid (∀ j, F j → W.heap.size ≤ j) ∧ Hid (RcA wx A (.slice al N cl) all) ∧ Hid (∀ j, A j → W.heap.size ≤ j ∧ j < wx.heap.size ∧ ¬ F j) ∧ Hid (Below W.heap.size W wx))
  case first =>
    go_wp2_with fail
    go_loopw [14] (fun s14 wr => ∃ (i : Nat) (k : Dk) (F : Nat → Prop), s14 = .int .i64 i ∧ i ≤ n2 ∧ i ≤ 10 ∧ k.steps ≤ 300 + 2 * i ∧ Hid (k.off = false) ∧ Hid (k.fu = none) ∧ Hid (KF k all safe) ∧ Hid (DiskAt wr F d k) ∧ Hid (∀ j, F j → W.heap.size ≤ j) ∧ Hid (RcA wr A (.slice al N cl) all) ∧ Hid (∀ j, A j → W.heap.size ≤ j ∧ j < wr.heap.size ∧ ¬ F j) ∧ Hid (Below W.heap.size W wr)) (fun s14 _ => 10 - (intOf s14).toNat)
    case atStart => exact ⟨0, k2, Fb, rfl, by omega, by omega, by omega, hof, hfu, HKb.out, HDkb.out, HFb.out, HRb.out, HDb.out, hBb⟩
    case round =>
      clear HKb HDkb HFb HRb HDb hBb hof hfu hs0
      obtain ⟨i, k, F, rfl, hin, hi10, hst2, Hof, Hfu, HK, HDk, HF, HR, HD, HB⟩ := hrel
      by_cases hlt : i < n2 ∧ i < 10
      · have hcl : (i : Int) < (n2 : Int) := by omega
        have hcl10 : (i : Int) < 10 := by omega
        obtain ⟨b, off, rfl, hce⟩ := (hI2.carry HB.out).flat (by omega)
        have q0 := hce i hlt.1
        clear hce
        obtain ⟨Nz, hNz⟩ : ∃ Nz, zs2.getD i 0 = Nz := ⟨_, rfl⟩
        rw [hNz] at q0
        clear hNz
        obtain ⟨q, hq0, hq6⟩ := tmK 6 (by omega) (by omega) Nz
        have hq : (wrap64 (Nz.tmod 6 + 6)).tmod 6 = (q : Int) := hq0
        obtain ⟨_, f2, f3, f4⟩ := HK.out.fuse Hof.out q (by omega)
        have hfu := fuse_any d F k (q : Int) (by omega) wr HDk.out
        have f5 := f2.fl
        have f6 := f2.us
        obtain ⟨g1, g2⟩ := f2.opened f3 64
        obtain ⟨P, HPq⟩ : ∃ P, fuseK k (q : Int) = P := ⟨_, rfl⟩
        rw [HPq] at hfu f2 f3 f4 f5 f6 g1 g2
        obtain ⟨en, k5⟩ := P
        dsimp only at hfu f2 f3 f4 f5 f6 g1 g2
        have hop := fun w F' hD hPw hF' => sopen_any w F' d 64 k5 (by omega) (by omega) hD hPw hF' f5 (by omega) (by omega)
        obtain ⟨Q, HQ⟩ : ∃ Q, openL 64 k5 = Q := ⟨_, rfl⟩
        rw [HQ] at g1 g2
        simp only [HQ] at hop
        obtain ⟨en6, l6, k6⟩ := Q
        dsimp only at g1 g2
        have g3 := g1.fl
        have hRs := fun w F' hD => restart_any d F' k6 0 (.slice none 0 0) [] (by omega) w hD (irnL w) (fun h => absurd rfl h)
        have HRst : Hid (∀ hg : (restK k6 []).Good, KF (restK k6 []) all safe) := fun hg => g1.rest [] hg
        have hs7 : (restK k6 []).steps = k6.steps := rfl
        have Ho7 : Hid ((restK k6 []).off = false) := rfl
        have Hf7 : Hid ((restK k6 []).fu = none) := rfl
        obtain ⟨k7, Hk7⟩ : ∃ k7, restK k6 [] = k7 := ⟨_, rfl⟩
        rw [Hk7] at HRst hs7 Ho7 Hf7
        simp only [Hk7] at hRs
        clear HPq HQ Hk7 f2 f3 g1 hq0 Hof Hfu HK
        have h0s := HB.out.size
        go_upto_region 25 with (first
          | (go_at_call 21; refine hfu.mono ?_; rintro e w5 ⟨rfl, F5, hD5, hk5, hF5⟩))
        have hB5 : Below W.heap.size W w5 := HB.out.trans (hk5.low h0s HF.out)
        have h5s := hk5.size
        have hF5' : ∀ j, F5 j → W.heap.size ≤ j := fun j hj => (hF5 j hj).elim (HF.out j) (fun h => by omega)
        have hop5 := hop w5 F5 hD5 (hP.below hB5) (fun j hj => by have := hF5' j hj; omega)
        clear hfu hop
        go_upto_region 26 with (first
          | (go_at_call 20; refine hop5.mono ?_; rintro e w6 ho; obtain ⟨⟨v6, rfl⟩, F6, hD6, hk6, hF6⟩ := ho.dp))
        have hB6 : Below W.heap.size W w6 := hB5.trans (hk6.low hB5.size hF5')
        have h6s := hk6.size
        have hF6' : ∀ j, F6 j → W.heap.size ≤ j := fun j hj => (hF6 j hj).elim (hF5' j) (fun h => by omega)
        have hRs6 := hRs w6 F6 hD6
        clear hop5 hRs ho
        go_wp2_with (first
          | (go_at_call 24; refine hRs6.mono ?_; rintro e w7 ⟨rfl, F7, hD7, hk7, hF7⟩))
        have hB7 : Below W.heap.size W w7 := hB6.trans (hk7.low hB6.size hF6')
        have h7s := hk7.size
        have hF7' : ∀ j, F7 j → W.heap.size ≤ j := fun j hj => (hF7 j hj).elim (hF6' j) (fun h => by omega)
        have n5 : ∀ j, A j → ¬ F5 j := fun j hj h => (hF5 j h).elim (HD.out j hj).2.2 (fun h => by have := (HD.out j hj).2.1; omega)
        have n6 : ∀ j, A j → ¬ F6 j := fun j hj h => (hF6 j h).elim (n5 j hj) (fun h => by have := (HD.out j hj).2.1; omega)
        have n7 : ∀ j, A j → ¬ F7 j := fun j hj h => (hF7 j h).elim (n6 j hj) (fun h => by have := (HD.out j hj).2.1; omega)
        have hR7 : RcA w7 A (.slice al N cl) all := ((HR.out.keep hk5 (fun j hj => (HD.out j hj).2.2) (fun _ h => h)).keep hk6 n5 (fun _ h => h)).keep hk7 n6 (fun _ h => h)
        have hK7 := HRst.out hD7.good
        go_roundw
        case rel => exact ⟨i + 1, k7, F7, by go_num, by omega, by omega, by omega, Ho7.out, Hf7.out, hK7, hD7, hF7', hR7, fun j hj => ⟨(HD.out j hj).1, by have := (HD.out j hj).2.1; omega, n7 j hj⟩, hB7⟩
        case measure => simp [intOf]; omega
      · have hend : ¬ (i : Int) < (n2 : Int) ∨ ((i : Int) < (n2 : Int) ∧ ¬ (i : Int) < 10) := by omega
        rcases hend with hcl | ⟨hcl, hcl10⟩ <;> (
          go_wp2
          go_meet
          exact ⟨k, F, by omega, Hof.out, Hfu.out, HK.out, HDk.out, HF.out, HR.out, HD.out, HB.out⟩)
  case rest =>
  clear HKb HDkb HFb HRb HDb hBb hof hfu hs0
  obtain ⟨k, F, hst, Hof, Hfu, HK, HDk, HF, HR, HD, HB⟩ := hcut
  obtain ⟨wr, hwr⟩ : ∃ wr, wr = wc := ⟨_, rfl⟩
  subst hwr
  obtain ⟨en, l5, k5, hoe, hs5, hcs⟩ := HK.out.opens Hof.out 64
  have h0s := HB.out.size
  have hop := sopen_any wr F d 64 k (by omega) (by omega) HDk.out (hP.below HB.out) (fun j hj => by have := HF.out j hj; omega) HK.out.fl (by omega) (by have := HK.out.us; omega)
  rw [hoe] at hop
  obtain ⟨rfl, hpre, hsf, hK5⟩ : en = 0 ∧ l5.recs <+: all ∧ safe ≤ l5.recs.length ∧ KF k5 l5.recs l5.recs.length := hcs.elim id (fun h => absurd Hfu.out h.2.1)
  clear hcs hoe
  have hple := hpre.length_le
  rw [HN.out] at hple
  obtain ⟨M, HM⟩ : ∃ M, l5.recs.length = M := ⟨_, rfl⟩
  have HK5 : Hid (KF k5 l5.recs M) := by rw [← HM]; exact hK5
  have HPre : Hid (l5.recs <+: all) := hpre
  have HMr : Hid (l5.recs.length = M) := HM
  rw [HM] at hsf hple
  clear hK5 hpre HM
  go_upto_region 28 with (first
    | (go_at_call 20; refine hop.mono ?_; rintro e w5 ho; obtain ⟨lb5, rfl, hlb5, F5, H5, hA5, hk5, hF5, hH5⟩ := ho.yes rfl))
  have h5s := hk5.size
  have hB5 : Below W.heap.size W w5 := HB.out.trans (hk5.low h0s HF.out)
  have HR5 : Hid (RcA w5 A (.slice al N cl) all) := HR.out.keep hk5 (fun j hj => (HD.out j hj).2.2) (fun _ h => h)
  have hF5' : ∀ j, F5 j → W.heap.size ≤ j := fun j hj => (hF5 j hj).elim (HF.out j) (fun h => by omega)
  have hH5' : ∀ j, H5 j → W.heap.size ≤ j := fun j hj => by have := hH5 j hj; omega
  have hln := slen_any w5 F5 H5 lb5 d l5 k5 hA5
  rw [HMr.out] at hln
  have z1 : ¬ (M : Int) < (safe : Int) := by omega
  have z2 : ¬ (N : Int) < (M : Int) := by omega
  have z3 : decide (M < safe) = false := decide_eq_false (by omega)
  have z4 : decide (N < M) = false := decide_eq_false (by omega)
  have z5 : decide ((M : Int) < (safe : Int)) = false := decide_eq_false z1
  have z6 : decide ((N : Int) < (M : Int)) = false := decide_eq_false z2
  have HA5 : Hid (LogAt w5 F5 H5 lb5 d l5 k5) := hA5
  clear hop ho hA5
  go_upto_block 4 with (first
    | (go_at_call 26; refine hln.mono ?_; rintro e w6 ⟨rfl, h6⟩; replace h6 := h6.symm; subst h6))
  clear hln
  try simp only [z3, z4, z5, z6, Bool.or_false]
  clear z3 z4 z5 z6
  go_wp2_with fail
  go_loopw [15, 16, 17] (fun s15 _ _ wq => ∃ j : Nat, s15 = .int .i64 j ∧ j ≤ M ∧ Hid (Below w5.heap.size w5 wq)) (fun s15 _ _ _ => M - (intOf s15).toNat)
  case atStart => exact ⟨0, rfl, by omega, Below.refl _ _⟩
  case round =>
    obtain ⟨j, rfl, hjM, HBq⟩ := hrel
    have hA5q := HA5.out.below HBq.out
    have hln := slen_any _ F5 H5 lb5 d l5 k5 hA5q
    rw [HMr.out] at hln
    by_cases hjlt : j < M
    · have hcj : (j : Int) < (M : Int) := by omega
      have hj0 : (0 : Int) ≤ (j : Int) := by omega
      have hjr : j < l5.recs.length := by rw [HMr.out]; exact hjlt
      obtain ⟨x, hx⟩ : ∃ x, l5.recs[j]? = some x := ⟨_, List.getElem?_eq_getElem hjr⟩
      have hxa : all.getD j [] = x := by
        obtain ⟨t, ht⟩ := HPre.out
        rw [List.getD_eq_getElem?_getD, ← ht, List.getElem?_append_left hjr, hx]
        rfl
      have hrl : ∀ r ∈ l5.recs, r.length ≤ 1000000000 := fun r hr => by have := HK5.out.rl r hr; omega
      have hat := sat_any _ F5 H5 lb5 d l5 k5 (j : Int) (by omega) hA5q hrl
      have hatL : atL l5 (j : Int) = some x := by
        unfold atL
        rw [if_neg (by omega), Int.toNat_natCast]
        exact hx
      rw [hatL] at hat
      dsimp only [Option.isSome_some, Option.getD_some] at hat
      obtain ⟨g, ax, nx, cx, rfl, hcx, hrx⟩ := (HR5.out.keep (S := fun _ => False) (H' := A) (Keep.ofBelow HBq.out) (fun _ _ h => h) (fun _ h => h)).cell HN.out j (by omega)
      rw [hxa] at hrx
      clear hx hxa hatL hrl hA5q
      go_upto_region 34 with (first
        | (go_at_call 26; refine hln.mono ?_; rintro e w6 ⟨rfl, h6⟩; replace h6 := h6.symm; subst h6)
        | (go_at_call 27; refine hat.mono ?_; rintro e w7 ⟨u7, rfl, o7, hbd7, hb7⟩; obtain ⟨a7, c7, rfl, r7⟩ := Rd.ofOwn o7 hbd7))
      have hs1 := r7.strN
      have hs2 := (hrx.carry (Nat.le_refl _) hb7).strN
      have hcx7 := (hb7.cell (p := ⟨g, j, none⟩) (World.block_lt_of_cell? _ _ hcx)).trans hcx
      generalize strOfNums x = str at hs1 hs2
      have hB7 : Below w5.heap.size w5 w7 := HBq.out.trans (hb7.mono HBq.out.size)
      have z3 : (j : Int) < (N : Int) := by omega
      clear hln hat hrx hcx o7 r7 hbd7 hb7
      go_quiet (fail)
      go_wp2
      go_roundw
      case rel => exact ⟨j + 1, by go_num, by omega, ⟨hB7.os, hB7.tape, hB7.output, hB7.size, hB7.block⟩⟩
      case measure => simp [intOf]; omega
    · have hcj : ¬ (j : Int) < (M : Int) := by omega
      have hBq : Below W.heap.size W _ := hB5.trans (HBq.out.mono hB5.size)
      obtain ⟨v5, hL5, hRc5⟩ := hA5q.ex
      obtain ⟨av, cv, hv5⟩ : ∃ av cv, v5 = .slice av M cv := by
        obtain ⟨⟨vs, ov, _⟩, _⟩ := hRc5
        obtain ⟨av, cv, rfl⟩ := own_sl ov
        exact ⟨av, cv, by rw [HMr.out]⟩
      subst hv5
      have hbk := hL5.blk
      have hnf5 := hL5.nf
      have hll5 := hL5.lt
      have hRs := restart_any d F5 k5 0 (.slice none 0 0) [] (by have := HK5.out.fl; omega) _ hL5.D (irnL _) (fun h => absurd rfl h)
      have HRst : Hid (∀ hg : (restK k5 []).Good, KF (restK k5 []) l5.recs M) := fun hg => HK5.out.rest [] hg
      have Ho6 : Hid ((restK k5 []).off = false) := rfl
      have Hf6 : Hid ((restK k5 []).fu = none) := rfl
      have hs6 : (restK k5 []).steps = k5.steps := rfl
      obtain ⟨k6, Hk6⟩ : ∃ k6, restK k5 [] = k6 := ⟨_, rfl⟩
      rw [Hk6] at hRs HRst Ho6 Hf6 hs6
      have Hbk : Hid (_ = _) := hbk
      clear Hk6 hL5 hRc5 hbk hA5q
      go_upto_region 37 with (first
        | (go_at_call 26; refine hln.mono ?_; rintro e w6 ⟨rfl, h6⟩; replace h6 := h6.symm; subst h6)
        | (go_at_call 24; refine hRs.mono ?_; rintro e w8 ⟨rfl, F8, hD8, hk8, hF8⟩))
      have hB8 : Below W.heap.size W w8 := hBq.trans (hk8.low hBq.size hF5')
      have h8s := hk8.size
      have hF8' : ∀ j, F8 j → W.heap.size ≤ j := fun j hj => (hF8 j hj).elim (hF5' j) (fun h => by have := hBq.size; omega)
      have hK8 := HRst.out hD8.good
      obtain ⟨en, l9, k9, hoe, hs9, hcs⟩ := hK8.opens Ho6.out 64
      have hop := sopen_any w8 F8 d 64 k6 (by omega) (by omega) hD8 (hP.below hB8) (fun j hj => by have := hF8' j hj; omega) hK8.fl (by omega) (by have := hK8.us; omega)
      rw [hoe] at hop
      obtain ⟨rfl, hpre9, hsf9, _⟩ : en = 0 ∧ l9.recs <+: l5.recs ∧ M ≤ l9.recs.length ∧ KF k9 l9.recs l9.recs.length := hcs.elim id (fun h => absurd Hf6.out h.2.1)
      have hM9 : l9.recs.length = M := by have := hpre9.length_le; rw [HMr.out] at this; omega
      have HM9 : Hid (l9.recs.length = M) := hM9
      clear hcs hoe hpre9 hsf9 hM9 hRs hK8 HRst
      go_upto_region 38 with (first
        | (go_at_call 20; refine hop.mono ?_; rintro e w9 ho; obtain ⟨lb9, rfl, hlb9, F9, H9, hA9, hk9, hF9, hH9⟩ := ho.yes rfl))
      have hB9 : Below W.heap.size W w9 := hB8.trans (hk9.low hB8.size hF8')
      have hln9 := slen_any w9 F9 H9 lb9 d l9 k9 hA9
      rw [HM9.out] at hln9
      have hbk9 := (hk9.block lb5 (by omega) (fun h => (hF8 lb5 h).elim hnf5 (fun h => by omega))).trans ((hk8.block lb5 hll5 hnf5).trans Hbk.out)
      have hlnO := slen_blk w9 lb5 d _ av M cv _ _ hbk9
      clear hop ho hln Hbk hbk9 hA9 hk9 hk8
      go_wp2_with (first
        | (go_at_call 26; refine hln9.mono ?_; rintro e w6 ⟨rfl, h6⟩; replace h6 := h6.symm; subst h6)
        | (go_at_call 26; refine hlnO.mono ?_; rintro e w6 ⟨rfl, h6⟩; replace h6 := h6.symm; subst h6))
      go_ret
      exact ⟨by simp, hB9⟩

end Go.Proofs.YtikkieaokfailaaGreatDoor
