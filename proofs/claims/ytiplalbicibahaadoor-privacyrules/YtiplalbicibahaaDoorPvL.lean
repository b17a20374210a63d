/- roostkeep.Text, Texts; arguments. -/
import Derived.Test.YtiplalbicibahaaDoorPvK
import Derived.ChangeShapes
import Derived.SliceStrings
import Derived.OpenShut
import Derived.ProofKit
set_option maxRecDepth 100000
namespace Go.Proofs.YtiplalbicibahaaDoor
open Go.RowKit Go.Joins Go.Shelf

theorem text_any (l : By) (most : Nat) (w : World) (hm : most ≤ 100000) :
    Calls Tryd.prog 6 #[.string (ba l), .int .i64 most] w fun e w' => e = .returned (.string (ba (l.take most))) ∧ w' = w := by
  have hl := ba_size l
  by_cases hn : (most : Int) < ((ba l).size : Int)
  · have e1 : ba (l.take most) = (ba l).extract 0 most := by
      rw [Lib.extract_eq, ba_list]; rfl
    rw [e1]
    clear e1 hl
    generalize ba l = S at *
    go_enter Tryd.func6, Tryd.ntmps6
    go_wp2
    go_ret
    exact ⟨rfl, rfl⟩
  · have e1 : ba (l.take most) = ba l := by rw [List.take_of_length_le (by omega)]
    rw [e1]
    clear e1 hl
    generalize ba l = S at *
    go_enter Tryd.func6, Tryd.ntmps6
    go_wp2
    go_ret
    exact ⟨rfl, rfl⟩

/-- Texts of a list, cut. -/
def cutT (ts : List By) (most long : Nat) : List By := (ts.take most).map fun t => t.take long
theorem cutT_len (ts : List By) (most long : Nat) : (cutT ts most long).length ≤ most := by unfold cutT; rw [List.length_map, List.length_take]; omega
theorem cutT_size (ts : List By) (most long : Nat) : ∀ t ∈ cutT ts most long, t.length ≤ long := by
  intro t ht
  unfold cutT at ht
  obtain ⟨u, _, rfl⟩ := List.mem_map.1 ht
  rw [List.length_take]; omega
theorem cutT_cut (ts : List By) (most long : Nat) : cutT (cutT ts most long) most long = cutT ts most long := by
  unfold cutT
  rw [List.take_of_length_le (by rw [List.length_map, List.length_take]; omega), List.map_map]
  refine List.map_congr_left (fun t _ => ?_)
  show List.take long (List.take long t) = List.take long t
  rw [List.take_take, Nat.min_self]
set_option maxHeartbeats 1600000 in
theorem texts_any (a : Option Addr) (n c : Nat) (ts : List By) (most long : Nat) (w : World) (h : TRd w a n c ts) (hm : most ≤ 1000) (hl : long ≤ 100000) :
    Calls Tryd.prog 14 #[.slice a n c, .int .i64 most, .int .i64 long] w fun e w' => ∃ v, e = .returned v ∧ w'.ownsRow w.heap.size 9 1 v (cutT ts most long).length (tc (cutT ts most long)) ∧ Below w.heap.size w w' := by
  have hcap := h.cap
  have hmost := h.most
  have HL : Hid (ts.length = n) := h.len
  unfold maxLen at hmost
  obtain ⟨M, HM⟩ : ∃ M, Hid (most = M) := ⟨_, rfl⟩
  go_enter Tryd.func14, Tryd.ntmps14
  go_wp2
  go_loopw [7, 8] (fun v i wr => ∃ k : Nat, k ≤ n ∧ k ≤ most ∧ i = .int .i64 k ∧ Hid (wr.ownsRow w.heap.size 9 1 v k (tc ((ts.take k).map fun t => t.take long))) ∧ Hid (Below w.heap.size w wr)) (fun _ i _ => n - (intOf i).toNat)
  case atStart => exact ⟨0, by omega, by omega, rfl, World.ownsRow_nil .., Below.refl _ _⟩
  case round =>
    rename_i v _ _
    obtain ⟨k, hk, hkm, rfl, HO, HB⟩ := hrel
    have hsz := HB.out.size
    by_cases hkn : (k : Int) < (n : Int)
    · by_cases hkq : (k : Int) < (most : Int)
      · obtain ⟨b, off, rfl, hcell⟩ := (h.below HB.out).flat (by omega)
        have hc := hcell k (by omega)
        obtain ⟨y, hy⟩ : ∃ y, ts[k]? = some y := ⟨_, List.getElem?_eq_getElem (by rw [HL.out]; omega)⟩
        rw [show ts.getD k [] = y by rw [List.getD_eq_getElem?_getD, hy]; rfl] at hc
        have HX : Hid (tc ((ts.take (k + 1)).map fun t => t.take long) = tc ((ts.take k).map fun t => t.take long) ++ [.string (ba (y.take long))]) := by
          show _ = _
          rw [List.take_add_one, hy, List.map_append, tc_app]; rfl
        have ov := HO.out
        obtain ⟨av, cv, hv⟩ := ownR_sl ov
        subst hv
        have hTx := fun w => text_any y long w hl
        clear hcell hy h HO
        go_wp2_with (first
          | (go_at_call 6; refine (hTx _).mono ?_; clear hTx; rintro e w2 ⟨rfl, hw2⟩; replace hw2 := hw2.symm; subst hw2)
          | (at_builtin; refine wp_app1 37 9 _ 1 16 Tryd.underlying37 infoStr1 rfl (by decide) (by decide) rfl (.tmp 20) (.tmp 27) rfl w.heap.size (.slice av k cv) k _ rfl ov #[.string (ba (y.take long))] rfl (by simp [Value.oneCell']) rfl (by omega) hsz ?_; intro v7 w7 o7 k7 n7))
        have HB7 : Hid (Below w.heap.size w w7) := HB.out.trans (k7.below hsz (fun g' hg => (ov.lt g' hg).1))
        have HO7 : Hid (w7.ownsRow w.heap.size 9 1 v7 (k + 1) (tc ((ts.take (k + 1)).map fun t => t.take long))) := by
          show World.ownsRow _ _ _ _ _ _ _
          rw [HX.out]; exact o7
        clear ov o7 k7 n7 HB HX
        go_wp2
        go_roundw
        case rel => exact ⟨k + 1, by omega, by omega, by go_num, HO7, HB7⟩
        case measure => simp [intOf]; omega
      · have HX : Hid (cutT ts most long = (ts.take k).map (fun t => t.take long)) := by
          unfold cutT; rw [show k = most by omega]; rfl
        clear h
        go_wp2
        go_ret
        rw [HX.out]
        refine ⟨_, rfl, ?_, HB.out⟩
        rw [List.length_map, List.length_take, HL.out, Nat.min_eq_left hk]
        exact HO.out
    · have HX : Hid (cutT ts most long = (ts.take k).map (fun t => t.take long)) := by
        show _ = _
        unfold cutT; rw [List.take_of_length_le (by rw [HL.out]; omega), List.take_of_length_le (by rw [HL.out]; omega)]
      clear h
      go_wp2
      go_ret
      rw [HX.out]
      refine ⟨_, rfl, ?_, HB.out⟩
      rw [List.length_map, List.length_take, HL.out, Nat.min_eq_left hk]
      exact HO.out

/-! ### arguments -/
open Go.ChangeShapes Go.WideShapes Go.ChangeAt
theorem cellsInt : Tryd.prog.cellsOf 3 = 1 := by kernel_rfl
theorem cellsBool : Tryd.prog.cellsOf 4 = 1 := by kernel_rfl
theorem cellsStr : Tryd.prog.cellsOf 9 = 1 := by kernel_rfl
theorem cellsStrs : Tryd.prog.cellsOf 37 = 1 := by kernel_rfl
theorem cellsOp : Tryd.prog.cellsOf 39 = 7 := by kernel_rfl
theorem array7 {α : Type} {cs : Array α} (h : cs.size = 7) : ∃ c0 c1 c2 c3 c4 c5 c6, cs = #[c0, c1, c2, c3, c4, c5, c6] := by
  obtain ⟨l⟩ := cs
  match l, h with
  | [c0, c1, c2, c3, c4, c5, c6], _ => exact ⟨c0, c1, c2, c3, c4, c5, c6, rfl⟩
theorem strs_cell {H : Type} {enc : TypeId × Value → H} {W : World} {fuel : Nat} {c0 : Value} {x : DataW H × List MemPlace} (f : DataW.trod enc Tryd.prog W 0 (fun _ => true) true fuel 37 [c0] = some x) :
    ∃ (a : Option Addr) (n c : Nat) (ts : List By), c0 = .slice a n c ∧ TRd W a n c ts := by
  rcases open_strings Tryd.underlying37 Tryd.underlying9 cellsStr f with ⟨hcs, _⟩ | ⟨x, l, cc, ss, hcs, _, hl, hm, hz, _, hcell, hws⟩
  · simp only [List.cons.injEq, and_true] at hcs
    exact ⟨none, 0, 0, [], hcs, TRd.nil W⟩
  · simp only [List.cons.injEq, and_true] at hcs
    have hz' : ss.length = cc := by simpa using hz
    refine ⟨some x, l, cc, (ss.take l).map (fun s => s.data.toList), hcs, by rw [List.length_map, List.length_take]; omega, hl, hm, fun h0 => ?_, fun e => by cases e⟩
    have hc : ∀ j, j < l → W.cell? (x.add j) = some (.string (ba (((ss.take l).map (fun s => s.data.toList)).getD j []))) := fun j hj => by
      have hjl : j < ss.length := by omega
      rw [hcell j (by omega)]
      simp [List.getD, hj, List.getElem?_eq_getElem hjl, ba_back]
    obtain ⟨b, off, spot⟩ := x
    have hspot : spot = none := by simpa [Addr.add] using World.cell?_spot (hc 0 h0)
    subst hspot
    refine ⟨b, off, rfl, fun j hj => ?_⟩
    have := hc j hj
    rw [add_flat] at this
    exact this
theorem open_texts {H : Type} {enc : TypeId × Value → H} {W : World} {b0 : Nat} {v : Value} {d : DataW H} {p : List MemPlace}
    (hv : Value.okWide Tryd.prog W .any b0 37 v) (h : DataW.Trod enc Tryd.prog W 0 (fun _ => true) true 37 v d p) : ∃ a n c ts, v = .slice a n c ∧ TRd W a n c ts := by
  obtain ⟨a, n, c, rfl⟩ := okWide_slice Tryd.underlying37 hv
  obtain ⟨fuel, hf⟩ := h
  exact strs_cell (by simpa [Value.cells] using hf)

/-- A call as an argument. -/
structure Op7 where
  d : Int
  nm : By
  ta : Option Addr
  tn : Nat
  tc : Nat
  i : Bool
  c : By
  ga : Option Addr
  gn : Nat
  gc : Nat
  s : By
def oc (o : Op7) : Array Value := #[.int .i64 o.d, .string (ba o.nm), .slice o.ta o.tn o.tc, .bool o.i, .string (ba o.c), .slice o.ga o.gn o.gc, .string (ba o.s)]
structure OpR (W : World) (o : Op7) (ts gs : List By) : Prop where
  t : TRd W o.ta o.tn o.tc ts
  g : TRd W o.ga o.gn o.gc gs
  s : o.s.length ≤ 9223372036854775807
theorem op_cells {H : Type} {enc : TypeId × Value → H} {W : World} {fuel : Nat} {c0 c1 c2 c3 c4 c5 c6 : Value} {x : DataW H × List MemPlace} (f : DataW.trod enc Tryd.prog W 0 (fun _ => true) true fuel 39 [c0, c1, c2, c3, c4, c5, c6] = some x) :
    ∃ (o : Op7) (ts gs : List By), #[c0, c1, c2, c3, c4, c5, c6] = oc o ∧ OpR W o ts gs := by
  obtain ⟨ys, n, _, hx, hl, hlen, hfs⟩ := DataW.trod_struct Tryd.underlying39 f
  match ys, hlen with
  | [y0, y1, y2, y3, y4, y5, y6], _ =>
    have f0 : DataW.trod enc Tryd.prog W 0 (fun _ => true) true n 3 [c0] = some y0 := by simpa [Value.cells, cellsInt] using hfs 0 _ rfl
    have f1 : DataW.trod enc Tryd.prog W 0 (fun _ => true) true n 9 [c1] = some y1 := by simpa [Value.cells, cellsStr] using hfs 1 _ rfl
    have f2 : DataW.trod enc Tryd.prog W 0 (fun _ => true) true n 37 [c2] = some y2 := by simpa [Value.cells, cellsStrs] using hfs 2 _ rfl
    have f3 : DataW.trod enc Tryd.prog W 0 (fun _ => true) true n 4 [c3] = some y3 := by simpa [Value.cells, cellsBool] using hfs 3 _ rfl
    have f4 : DataW.trod enc Tryd.prog W 0 (fun _ => true) true n 9 [c4] = some y4 := by simpa [Value.cells, cellsStr] using hfs 4 _ rfl
    have f5 : DataW.trod enc Tryd.prog W 0 (fun _ => true) true n 37 [c5] = some y5 := by simpa [Value.cells, cellsStrs] using hfs 5 _ rfl
    have f6 : DataW.trod enc Tryd.prog W 0 (fun _ => true) true n 9 [c6] = some y6 := by simpa [Value.cells, cellsStr] using hfs 6 _ rfl
    obtain ⟨D, e0, _, w0⟩ := DataW.trod_int Tryd.underlying3 f0
    obtain ⟨N, e1, _, w1⟩ := DataW.trod_string Tryd.underlying9 f1
    obtain ⟨I, e3, _⟩ := DataW.trod_bool Tryd.underlying4 f3
    obtain ⟨C, e4, _, w4⟩ := DataW.trod_string Tryd.underlying9 f4
    obtain ⟨S, e6, _, w6⟩ := DataW.trod_string Tryd.underlying9 f6
    simp only [List.cons.injEq, and_true] at e0 e1 e3 e4 e6
    subst e0 e1 e3 e4 e6
    obtain ⟨ta, tn, tc, ts, rfl, hT⟩ := strs_cell f2
    obtain ⟨ga, gn, gc, gs, rfl, hG⟩ := strs_cell f5
    refine ⟨⟨D, N.data.toList, ta, tn, tc, I, C.data.toList, ga, gn, gc, S.data.toList⟩, ts, gs, ?_, hT, hG, ?_⟩
    · unfold oc; simp only [ba_back]
    · show S.data.toList.length ≤ _
      have : S.data.toList.length = S.size := by simp
      rw [this]; exact w6
theorem open_op {H : Type} {enc : TypeId × Value → H} {W : World} {b0 : Nat} {v : Value} {d : DataW H} {p : List MemPlace}
    (hv : Value.okWide Tryd.prog W .any b0 39 v) (h : DataW.Trod enc Tryd.prog W 0 (fun _ => true) true 39 v d p) : ∃ o ts gs, v = .agg (oc o) ∧ OpR W o ts gs := by
  obtain ⟨cs, rfl, hsz⟩ := okWide_struct Tryd.underlying39 hv
  obtain ⟨c0, c1, c2, c3, c4, c5, c6, rfl⟩ := array7 (hsz.trans cellsOp)
  obtain ⟨fuel, hf⟩ := h
  obtain ⟨o, ts, gs, e, hR⟩ := op_cells (by simpa [Value.cells] using hf)
  exact ⟨o, ts, gs, by rw [e], hR⟩
end Go.Proofs.YtiplalbicibahaaDoor
