/- Rows of calls, opened; two lists of names compared. -/
import Derived.Test.YtimfidhehikaiaaDkD
import Derived.Test.YtimfidhehikaiaaDkI
import Derived.Deep.Slices
namespace Go.Proofs.Ytimfidhehikaiaa
open Go.ChangeShapes Go.WideShapes Go.ChangeAt Go.RowKit

/-- One call, as it lies from cell q of block b on. -/
structure OpAt (w : World) (b q : Nat) (On Do : Int) (A B : Nm) (ar : Option Addr) (nr cr : Nat) (xs : List Int) (Nn : Int) (ak : Option Addr) (nk ck : Nat) (zs : List Int) : Prop where
  c0 : w.cell? ⟨b, q, none⟩ = some (.int .i64 On)
  c1 : w.cell? ⟨b, q + 1, none⟩ = some (.int .i64 Do)
  c2 : w.cell? ⟨b, q + 2, none⟩ = some (.string A)
  c3 : w.cell? ⟨b, q + 3, none⟩ = some (.string B)
  c4 : w.cell? ⟨b, q + 4, none⟩ = some (.slice ar nr cr)
  c5 : w.cell? ⟨b, q + 5, none⟩ = some (.int .i64 Nn)
  c6 : w.cell? ⟨b, q + 6, none⟩ = some (.slice ak nk ck)
  hA : A.size ≤ 9223372036854775807
  hB : B.size ≤ 9223372036854775807
  hR : Rd w ar nr cr xs
  hN : -9223372036854775808 ≤ Nn ∧ Nn ≤ 9223372036854775807
  hK : IAr w ak nk ck zs
theorem OpAt.below {w w' : World} {b q : Nat} {On Do : Int} {A B : Nm} {ar : Option Addr} {nr cr : Nat} {xs : List Int} {Nn : Int} {ak : Option Addr} {nk ck : Nat} {zs : List Int} (h : OpAt w b q On Do A B ar nr cr xs Nn ak nk ck zs) (hb : Below w.heap.size w w') : OpAt w' b q On Do A B ar nr cr xs Nn ak nk ck zs := by
  have t : ∀ i u, w.cell? ⟨b, i, none⟩ = some u → w'.cell? ⟨b, i, none⟩ = some u := fun i u hc => (hb.cell (p := ⟨b, i, none⟩) (World.block_lt_of_cell? w _ hc)).trans hc
  exact ⟨t _ _ h.c0, t _ _ h.c1, t _ _ h.c2, t _ _ h.c3, t _ _ h.c4, t _ _ h.c5, t _ _ h.c6, h.hA, h.hB, h.hR.carry (Nat.le_refl _) hb, h.hN, h.hK.carry hb⟩
structure ORd (w : World) (a : Option Addr) (n c : Nat) : Prop where
  cap : n ≤ c
  most : c ≤ 9223372036854775807
  flat : 0 < n → ∃ b off, a = some ⟨b, off, none⟩ ∧ ∀ j, j < n → ∃ On Do A B ar nr cr xs Nn ak nk ck zs, OpAt w b (off + j * 7) On Do A B ar nr cr xs Nn ak nk ck zs

theorem cellsOp : Try.prog.cellsOf 34 = 7 := by kernel_rfl
theorem cellsStr : Try.prog.cellsOf 9 = 1 := by kernel_rfl
set_option maxRecDepth 100000 in
set_option maxHeartbeats 2000000 in
theorem open_ops {H : Type} {enc : TypeId × Value → H} {W : World} {b0 : Nat} {v : Value} {d : DataW H} {p : List MemPlace}
    (hv : Value.okWide Try.prog W .any b0 22 v) (h : DataW.Trod enc Try.prog W 0 (fun _ => true) true 22 v d p) : ∃ a n c, v = .slice a n c ∧ ORd W a n c := by
  obtain ⟨a, n, c, rfl⟩ := okWide_slice Try.underlying22 hv
  refine ⟨a, n, c, rfl, ?_⟩
  obtain ⟨fuel, hf⟩ := h
  rcases Go.Deep.open_slice Try.underlying22 hf with ⟨hcs, _⟩ | ⟨x, l, cc, m, k, D, Pl, hcs, hb, hl, hm, hmm, _, hx⟩
  · simp [Value.cells] at hcs
    obtain ⟨rfl, rfl, rfl⟩ := hcs
    exact ⟨Nat.le_refl _, by omega, fun h => by omega⟩
  · simp [Value.cells] at hcs
    obtain ⟨rfl, rfl, rfl⟩ := hcs
    simp only [if_true] at hmm
    subst hmm
    have each : ∀ j, j < n → ∃ (On Do : Int) (A B : Nm) (ar : Option Addr) (nr cr : Nat) (xs : List Int) (Nn : Int) (ak : Option Addr) (nk ck : Nat) (zs : List Int), W.cell? (x.add (j * 7)) = some (.int .i64 On) ∧ W.cell? (x.add (j * 7 + 1)) = some (.int .i64 Do) ∧ W.cell? (x.add (j * 7 + 2)) = some (.string A) ∧ W.cell? (x.add (j * 7 + 3)) = some (.string B) ∧ W.cell? (x.add (j * 7 + 4)) = some (.slice ar nr cr) ∧ W.cell? (x.add (j * 7 + 5)) = some (.int .i64 Nn) ∧ W.cell? (x.add (j * 7 + 6)) = some (.slice ak nk ck) ∧ A.size ≤ 9223372036854775807 ∧ B.size ≤ 9223372036854775807 ∧ Rd W ar nr cr xs ∧ (-9223372036854775808 ≤ Nn ∧ Nn ≤ 9223372036854775807) ∧ IAr W ak nk ck zs := by
      intro j hj
      obtain ⟨cs', h1, h2⟩ := hx j (by omega)
      rw [cellsOp] at h1
      obtain ⟨_, hlen, hcell⟩ := World.cells?_some h1
      obtain ⟨ws, q, hq, hxy, _, hxl, hfs⟩ := DataW.trod_struct Try.underlying34 h2
      match ws, hxl, cs', hlen with
      | [y0, y1, y2, y3, y4, y5, y6], _, [v0, v1, v2, v3, v4, v5, v6], _ =>
        have f0 : DataW.trod enc Try.prog W 0 (fun _ => true) true q 3 [v0] = some y0 := by simpa [Value.cells, cellsInt] using hfs 0 _ rfl
        have f1 : DataW.trod enc Try.prog W 0 (fun _ => true) true q 3 [v1] = some y1 := by simpa [Value.cells, cellsInt] using hfs 1 _ rfl
        have f2 : DataW.trod enc Try.prog W 0 (fun _ => true) true q 9 [v2] = some y2 := by simpa [Value.cells, cellsStr] using hfs 2 _ rfl
        have f3 : DataW.trod enc Try.prog W 0 (fun _ => true) true q 9 [v3] = some y3 := by simpa [Value.cells, cellsStr] using hfs 3 _ rfl
        have f4 : DataW.trod enc Try.prog W 0 (fun _ => true) true q 31 [v4] = some y4 := by simpa [Value.cells, cellsBytes] using hfs 4 _ rfl
        have f5 : DataW.trod enc Try.prog W 0 (fun _ => true) true q 3 [v5] = some y5 := by simpa [Value.cells, cellsInt] using hfs 5 _ rfl
        have f6 : DataW.trod enc Try.prog W 0 (fun _ => true) true q 32 [v6] = some y6 := by simpa [Value.cells, cellsInts] using hfs 6 _ rfl
        obtain ⟨K0, e0, _, w0⟩ := DataW.trod_int Try.underlying3 f0
        obtain ⟨K1, e1, _, w1⟩ := DataW.trod_int Try.underlying3 f1
        obtain ⟨S2, e2, _, w2⟩ := DataW.trod_string Try.underlying9 f2
        obtain ⟨S3, e3, _, w3⟩ := DataW.trod_string Try.underlying9 f3
        obtain ⟨K5, e5, _, w5⟩ := DataW.trod_int Try.underlying3 f5
        obtain ⟨ar, nr, cr, xs, e4, hR⟩ := rd_of_cells f4
        obtain ⟨ak, nk, ck, zs, e6, hK⟩ := iar_of_cells f6
        simp only [List.cons.injEq, and_true] at e0 e1 e2 e3 e5
        subst e0 e1 e2 e3 e4 e5 e6
        have b5 := bounds_i64 w5
        have c0 := hcell 0 (by omega)
        have c1 := hcell 1 (by omega)
        have c2 := hcell 2 (by omega)
        have c3 := hcell 3 (by omega)
        have c4 := hcell 4 (by omega)
        have c5 := hcell 5 (by omega)
        have c6 := hcell 6 (by omega)
        rw [Go.Deep.add_add] at c0 c1 c2 c3 c4 c5 c6
        exact ⟨K0, K1, S2, S3, ar, nr, cr, xs, K5, ak, nk, ck, zs, by simpa using c0, by simpa using c1, by simpa using c2, by simpa using c3, by simpa using c4, by simpa using c5, by simpa using c6, w2, w3, hR, b5, hK⟩
    refine ⟨hl, hm, fun h0 => ?_⟩
    obtain ⟨b, off, spot⟩ := x
    obtain ⟨_, _, _, _, _, _, _, _, _, _, _, _, _, e0, _⟩ := each 0 h0
    have hspot : spot = none := by simpa [Addr.add] using World.cell?_spot e0
    subst hspot
    refine ⟨b, off, rfl, fun j hj => ?_⟩
    obtain ⟨On, Do, A, B, ar, nr, cr, xs, Nn, ak, nk, ck, zs, e0, e1, e2, e3, e4, e5, e6, e7, e8, e9, e10, e11⟩ := each j hj
    rw [add_flat] at e0 e1 e2 e3 e4 e5 e6
    simp only [← Nat.add_assoc] at e0 e1 e2 e3 e4 e5 e6
    exact ⟨On, Do, A, B, ar, nr, cr, xs, Nn, ak, nk, ck, zs, ⟨e0, e1, e2, e3, e4, e5, e6, e7, e8, e9, e10, e11⟩⟩

set_option maxRecDepth 100000 in
set_option maxHeartbeats 2000000 in
/-- Two rows of the same names are the same. -/
theorem same_any (v u : Value) (ns : List Nm) (w : World) (B C : Nat) (hv : w.ownsRow B 9 1 v ns.length (nv ns)) (hu : w.ownsRow C 9 1 u ns.length (nv ns)) :
    Calls Try.prog 26 #[v, u] w fun e w' => e = .returned (.bool true) ∧ Below w.heap.size w w' := by
  obtain ⟨av, cv, rfl, hnv⟩ := own_formN hv
  obtain ⟨au, cu, rfl, hnu⟩ := own_formN hu
  obtain ⟨N, HN⟩ : ∃ N, Hid (ns.length = N) := ⟨_, rfl⟩
  have HV : Hid (w.ownsRow B 9 1 (.slice av ns.length cv) ns.length (nv ns)) := hv
  have HU : Hid (w.ownsRow C 9 1 (.slice au ns.length cu) ns.length (nv ns)) := hu
  rw [HN.out] at hnv ⊢
  have hself : ((N : Int) != (N : Int)) = false := by simp
  clear hv hu hnu
  go_enter Try.func26, Try.ntmps26
  go_wp2_with fail
  go_loopw [5] (fun s5 wr => ∃ i : Nat, i ≤ N ∧ s5 = .int .i64 i ∧ ∃ q, wr = w.drewN q) (fun s5 _ => N - (intOf s5).toNat)
  case atStart => exact ⟨0, by omega, rfl, 0, rfl⟩
  case round =>
    obtain ⟨i, hi, rfl, q, rfl⟩ := hrel
    by_cases hil : i < N
    · have hcl : (i : Int) < (N : Int) := by omega
      have hi0 : (0 : Int) ≤ (i : Int) := by omega
      obtain ⟨x, hx⟩ : ∃ x, ns[i]? = some x := ⟨_, List.getElem?_eq_getElem (by rw [HN.out]; exact hil)⟩
      have hix : (nv ns)[i]? = some (.string x) := by unfold nv; rw [List.getElem?_map, hx]; rfl
      obtain ⟨gv, hgv, c1⟩ : ∃ g, av = some ⟨g, 0, none⟩ ∧ w.cell? ⟨g, i, none⟩ = some (.string x) := by
        rcases HV.out.2 with ⟨_, h0⟩ | ⟨g, cap, cur, h1, _⟩
        · rw [HN.out] at h0; omega
        · cases h1
          have hc := HV.out.cells (g := g) rfl i _ hix
          rw [add_flat, Nat.zero_add] at hc
          exact ⟨g, rfl, hc⟩
      obtain ⟨gu, hgu, c2⟩ : ∃ g, au = some ⟨g, 0, none⟩ ∧ w.cell? ⟨g, i, none⟩ = some (.string x) := by
        rcases HU.out.2 with ⟨_, h0⟩ | ⟨g, cap, cur, h1, _⟩
        · rw [HN.out] at h0; omega
        · cases h1
          have hc := HU.out.cells (g := g) rfl i _ hix
          rw [add_flat, Nat.zero_add] at hc
          exact ⟨g, rfl, hc⟩
      subst hgv hgu
      clear hx hix
      go_upto_region 6 with fail
      have c1' : (w.drewN q).cell? ⟨gv, i, none⟩ = some (.string x) := c1
      have c2' : (w.drewN q).cell? ⟨gu, i, none⟩ = some (.string x) := c2
      go_quiet (fail)
      go_wp2
      exact ⟨⟨i + 1, by omega, by go_num, q + nq, rfl⟩, by simp [intOf]; omega⟩
    · obtain rfl : i = N := by omega
      have hcl : ¬ (i : Int) < (i : Int) := by omega
      go_wp2
      go_ret
      exact ⟨rfl, ⟨rfl, rfl, rfl, Nat.le_refl _, fun _ _ => rfl⟩⟩

end Go.Proofs.Ytimfidhehikaiaa
