/- SubsTables: each act and each mail leads where the tables say. -/
import Derived.Test.YtgijofcnknehdaaDoorSuM
import Derived.Deep.CutBlock
namespace Go.Proofs.YtgijofcnknehdaaDoor
open Go.RowKit Go.Joins

/-- All that the law holds at the head of a round: the half, the names, its four lists. -/
structure Tt (w : World) (bh bn bA T : Nat) (h : Hf) (wr : World) : Prop where
  ah : HfAt wr bh h
  an : ∀ k, k < 9 → wr.cell? ⟨bn, k, none⟩ = some (.string (nmT.getD k ⟨#[]⟩))
  aA : ∀ k, k < 4 → wr.cell? ⟨bA, k, none⟩ = some (.int .i64 (kiT k))
  aO : ∀ k, k < 4 → wr.cell? ⟨bA + 1, k, none⟩ = some (.string (evT.getD k ⟨#[]⟩))
  aM : ∀ k, k < 4 → wr.cell? ⟨bA + 2, k, none⟩ = some (.int .i64 (maT k))
  aI : ∀ k, k < 4 → wr.cell? ⟨bA + 3, k, none⟩ = some (.string (evT.getD (4 + k) ⟨#[]⟩))
  bl : Below w.heap.size w wr
  tz : T ≤ wr.heap.size
  tw : w.heap.size ≤ T
  t1 : bh < T
  t2 : bn < T
  t3 : bA + 3 < T
theorem below_cell' {w w' : World} {B : Nat} (hb : Below B w w') {p : Addr} (hp : p.block < B) {v : Value} (h : w.cell? p = some v) : w'.cell? p = some v := by
  have e := hb.block p.block hp
  unfold World.cell? at h ⊢
  rw [e]
  exact h
section
variable {w : World} {bh bn bA T : Nat} {h : Hf} {wr wx : World}
theorem Tt.carry (A : Tt w bh bn bA T h wr) (hb : Below T wr wx) (hz : wr.heap.size ≤ wx.heap.size) : Tt w bh bn bA T h wx :=
  ⟨(hb.block bh A.t1).trans A.ah, fun k hk => below_cell' hb A.t2 (A.an k hk), fun k hk => below_cell' hb (by have := A.t3; show bA < T; omega) (A.aA k hk), fun k hk => below_cell' hb (by have := A.t3; show bA + 1 < T; omega) (A.aO k hk), fun k hk => below_cell' hb (by have := A.t3; show bA + 2 < T; omega) (A.aM k hk), fun k hk => below_cell' hb (by have := A.t3; show bA + 3 < T; omega) (A.aI k hk), A.bl.trans (hb.mono A.tw), Nat.le_trans A.tz hz, A.tw, A.t1, A.t2, A.t3⟩
theorem Tt.below (A : Tt w bh bn bA T h wr) (hb : Below wr.heap.size wr wx) : Tt w bh bn bA T h wx := A.carry (hb.mono A.tz) hb.size
theorem Tt.row (A : Tt w bh bn bA T h wr) {g : Nat} {u : Hf} (hg : T ≤ g) (G : HfAt wr g u) (t : Hf) : Tt w bh bn bA T h (wr.setRow g (hfc t)) :=
  A.carry ((G.keepB t).below A.tz (fun q hq => by omega)) (G.keepB t).size
end
theorem ix_any (xs : List Int) (j : Nat) (hn : xs.length = 9) (hj : j < 9) (w : World) : (Instr.index 33 (.agg (ic .i64 xs).toArray) (.int .i64 (j : Int))).run Tryd.prog w = .ok (.int .i64 (xs.getD j 0)) w := by
  have hs : (Tryd.prog.info? 3).map (·.size) = some 1 := by kernel_rfl
  cases hq : Tryd.prog.info? 3 with
  | none => simp [hq] at hs
  | some i =>
    have h1 : i.size = 1 := by simpa [hq] using hs
    have hjx : j < xs.length := by omega
    simp [Instr.index, asIntOf, run_underlying Tryd.underlying33, hj, sizeOf, typeInfo, hq, h1, part, isAgg, run_underlying Tryd.underlying3, ic, hjx, List.getD]
theorem tb_len (k : Nat) (hk : k < 8) : (tbT.getD k []).length = 9 := by
  rcases k with _ | _ | _ | _ | _ | _ | _ | _ | k <;> first | rfl | omega
theorem ma_pos (i : Nat) (hi : i < 4) : maT i ≠ 0 := by
  rcases i with _ | _ | _ | _ | i <;> first | decide | omega
theorem ma_one (i : Nat) (hi : i < 4) : (maT i == 1) = decide (i = 0) := by
  rcases i with _ | _ | _ | _ | i <;> first | rfl | omega
theorem wu64 {z : Int} (h0 : 0 ≤ z) (h1 : z ≤ 18446744073709551615) : IntKind.u64.wrap z = z := by
  simp [IntKind.wrap, IntKind.bits, IntKind.signed]; omega
theorem tm9 (z : Int) : ∃ k : Nat, (wrap64 (z.tmod 9 + 9)).tmod 9 = (k : Int) ∧ k < 9 := by
  have h1 : z.tmod 9 < 9 := Int.tmod_lt_of_pos z (by omega)
  have h2 : -9 < z.tmod 9 := by
    have : (-z).tmod 9 < 9 := Int.tmod_lt_of_pos (-z) (by omega)
    rw [Int.neg_tmod] at this; omega
  have h3 : wrap64 (z.tmod 9 + 9) = z.tmod 9 + 9 := by unfold wrap64; omega
  rw [h3, Int.tmod_eq_emod_of_nonneg (by omega)]
  exact ⟨((z.tmod 9 + 9) % 9).toNat, by omega, by omega⟩

/-- The blocks as they are made. -/
theorem tt_new (w w2 : World) (bh bn : Nat) (h : Hf) (A : HfAt w2 bh h) (N : w2.heap[bn]? = some (.cells (nmT.map Value.string).toArray 26 (0, 0))) (hb : Below w.heap.size w w2) :
    Tt w bh bn w2.heap.size (w2.heap.size + 4) h ((((w2.alloc (.cells #[.int .i64 11, .int .i64 13, .int .i64 12, .int .i64 14] 3)).alloc (.cells #[.string (evT.getD 0 ⟨#[]⟩), .string (evT.getD 1 ⟨#[]⟩), .string (evT.getD 2 ⟨#[]⟩), .string (evT.getD 3 ⟨#[]⟩)] 9)).alloc (.cells #[.int .i64 1, .int .i64 2, .int .i64 3, .int .i64 4] 3)).alloc (.cells #[.string (evT.getD 4 ⟨#[]⟩), .string (evT.getD 5 ⟨#[]⟩), .string (evT.getD 6 ⟨#[]⟩), .string (evT.getD 7 ⟨#[]⟩)] 9)) := by
  have l1 := A.lt
  have l2 : bn < w2.heap.size := (Array.getElem?_eq_some_iff.1 N).1
  refine ⟨push_old (push_old (push_old (push_old A))), ?_, ?_, ?_, ?_, ?_, ?_, by simp, by have := hb.size; omega, by omega, by omega, by omega⟩
  · intro k hk
    rw [cell_of_block (push_old (push_old (push_old (push_old N))))]
    rcases k with _ | _ | _ | _ | _ | _ | _ | _ | _ | k <;> first | rfl | omega
  · intro k hk
    rw [cell_of_block (push_old (push_old (push_old (push_at _ _ rfl))))]
    rcases k with _ | _ | _ | _ | k <;> first | rfl | omega
  · intro k hk
    rw [cell_of_block (push_old (push_old (push_at _ _ (by simp))))]
    rcases k with _ | _ | _ | _ | k <;> first | rfl | omega
  · intro k hk
    rw [cell_of_block (push_old (push_at _ _ (by simp)))]
    rcases k with _ | _ | _ | _ | k <;> first | rfl | omega
  · intro k hk
    rw [cell_of_block (push_at _ _ (by simp))]
    rcases k with _ | _ | _ | _ | k <;> first | rfl | omega
  · have h1 := hb.size
    exact (((hb.alloc (by omega) _).alloc (by simp; omega) _).alloc (by simp; omega) _).alloc (by simp; omega) _

set_option maxRecDepth 100000 in
set_option maxHeartbeats 4000000 in
theorem subsTables_any (x n0 m0 : Int) (w : World) (hn0 : 0 ≤ n0 ∧ n0 ≤ 18446744073709551615) (hm0 : 0 ≤ m0 ∧ m0 ≤ 18446744073709551615) (hS : Ts w) (hU : Tu w) :
    Calls Tryd.prog 3 #[.int .i64 x, .int .u64 n0, .int .u64 m0] w fun e w' => e = .returned (.bool true) ∧ Below w.heap.size w w' := by
  have HTs : Hid (Ts w) := hS
  have HTu : Hid (Tu w) := hU
  clear hS hU
  obtain ⟨s, hs, hs9⟩ := tm9 x
  go_enter Tryd.func3, Tryd.ntmps3
  go_upto_region 2 with fail
  go_cut [39] from 22 to 39 (fun s39 wx => ∃ B : Bool, s39 = .bool B ∧ (B = true ∨ (n0 ≠ 0 ∧ m0 ≠ 0 ∧ n0 ≠ 18446744073709551615 ∧ m0 ≠ 18446744073709551615)) ∧ wx = w)
  case first =>
    by_cases a1 : n0 = 0
    · subst a1
      go_wp2_with fail
      go_meet
      exact ⟨true, rfl, Or.inl rfl, rfl⟩
    have b1 : (n0 == 0) = false := by simpa using a1
    by_cases a2 : m0 = 0
    · subst a2
      go_wp2_with fail
      go_meet
      exact ⟨true, rfl, Or.inl rfl, rfl⟩
    have b2 : (m0 == 0) = false := by simpa using a2
    by_cases a3 : n0 = 18446744073709551615
    · subst a3
      go_wp2_with fail
      go_meet
      exact ⟨true, rfl, Or.inl rfl, rfl⟩
    have b3 : (n0 == 18446744073709551615) = false := by simpa using a3
    by_cases a4 : m0 = 18446744073709551615
    · subst a4
      go_wp2_with fail
      go_meet
      exact ⟨true, rfl, Or.inl rfl, rfl⟩
    have b4 : (m0 == 18446744073709551615) = false := by simpa using a4
    go_wp2_with fail
    go_meet
    exact ⟨false, rfl, Or.inr ⟨a1, a2, a3, a4⟩, rfl⟩
  case rest =>
  clear hs
  obtain ⟨B, rfl, hB, ew⟩ := hcut
  obtain rfl := ew.symm
  go_upto_if 39 with fail
  go_cut [1, 2] from 22 to 39 (fun s1 s2 wx => ∃ n m : Int, s1 = .int .u64 n ∧ s2 = .int .u64 m ∧ 0 ≤ n ∧ n < 18446744073709551615 ∧ 0 ≤ m ∧ m < 18446744073709551615 ∧ Hid (n ≠ 0) ∧ Hid (m ≠ 0) ∧ wx = w)
  case first =>
    cases B with
    | true =>
      go_wp2_with fail
      go_meet
      exact ⟨3, 4, rfl, rfl, by omega, by omega, by omega, by omega, (by decide : (3 : Int) ≠ 0), (by decide : (4 : Int) ≠ 0), rfl⟩
    | false =>
      obtain ⟨a1, a2, a3, a4⟩ : n0 ≠ 0 ∧ m0 ≠ 0 ∧ n0 ≠ 18446744073709551615 ∧ m0 ≠ 18446744073709551615 := hB.resolve_left (by decide)
      go_wp2_with fail
      go_meet
      exact ⟨n0, m0, rfl, rfl, by omega, by omega, by omega, by omega, a1, a2, rfl⟩
  case rest =>
  clear hB hn0 hm0
  obtain ⟨n, m, rfl, rfl, n0', n1', m0', m1', HN, HM, ew⟩ := hcut
  obtain rfl := ew.symm
  have cHf := half_any s hs9 n m w
  obtain ⟨hk, hnm⟩ := hfS_ok s hs9 n m HN.out HM.out
  have HAct : Hid (∀ i, i < 4 → ActR (hfS s n m) i (wnT i s) (actA (hfS s n m) (kiT i) (n + 1))) := fun i hi => act_tab s hs9 i hi n m HN.out HM.out (by omega)
  have HHear : Hid (∀ i, i < 4 → HearR (hfS s n m) i (wnT (4 + i) s) (hearA (hfS s n m) (maT i) (kOf i n m))) := fun i hi => hear_tab s hs9 i hi n m HN.out HM.out (by omega)
  generalize hfS s n m = h at *
  unfold hfv hfc at cHf
  go_upto_region 6 with (first
    | (go_at_call 6; refine cHf.mono ?_; clear cHf; rintro e w1 ⟨rfl, hb1⟩)
    | fail)
  have b2 := below2 w1 (.cells #[.int .i64 h.o, .int .u64 h.n, .int .i64 h.i, .int .u64 h.m] 24) (.cells (nmT.map Value.string).toArray 26)
  have A2 : HfAt ((w1.alloc (.cells #[.int .i64 h.o, .int .u64 h.n, .int .i64 h.i, .int .u64 h.m] 24)).alloc (.cells (nmT.map Value.string).toArray 26)) w1.heap.size h := push_old (push_at _ _ rfl)
  have N2 : ((w1.alloc (.cells #[.int .i64 h.o, .int .u64 h.n, .int .i64 h.i, .int .u64 h.m] 24)).alloc (.cells (nmT.map Value.string).toArray 26)).heap[w1.heap.size + 1]? = some (.cells (nmT.map Value.string).toArray 26 (0, 0)) := push_at _ _ (by simp)
  have b3 := hb1.trans (b2.mono hb1.size)
  refine wp_region_lx (fun w' => HfAt w' w1.heap.size h ∧ w'.heap[w1.heap.size + 1]? = some (.cells (nmT.map Value.string).toArray 26 (0, 0))) [] 6 (by kernel_rfl) (by kernel_rfl) ?_
  have HW : HfAt (World.drew ((w1.alloc (.cells #[.int .i64 h.o, .int .u64 h.n, .int .i64 h.i, .int .u64 h.m] 24)).alloc (.cells (nmT.map Value.string).toArray 26))) w1.heap.size h ∧ (World.drew ((w1.alloc (.cells #[.int .i64 h.o, .int .u64 h.n, .int .i64 h.i, .int .u64 h.m] 24)).alloc (.cells (nmT.map Value.string).toArray 26))).heap[w1.heap.size + 1]? = some (.cells (nmT.map Value.string).toArray 26 (0, 0)) := ⟨A2, N2⟩
  have b4 := b3.drew
  change LX _ _ _ _ _ _ _ _ (World.drew ((w1.alloc (.cells #[.int .i64 h.o, .int .u64 h.n, .int .i64 h.i, .int .u64 h.m] 24)).alloc (.cells (nmT.map Value.string).toArray 26)))
  generalize World.drew ((w1.alloc (.cells #[.int .i64 h.o, .int .u64 h.n, .int .i64 h.i, .int .u64 h.m] 24)).alloc (.cells (nmT.map Value.string).toArray 26)) = W at HW b4 ⊢
  clear A2 N2 b2 b3
  have cS := fState_any h W (HTs.out.below b4)
  rw [hnm] at cS
  unfold hfv hfc at cS
  have nc : ∀ w' : World, w'.heap[w1.heap.size + 1]? = some (.cells (nmT.map Value.string).toArray 26 (0, 0)) → w'.cell? ⟨w1.heap.size + 1, s, none⟩ = some (.string (nmT.getD s ⟨#[]⟩)) := fun w' hw => by
    rw [cell_of_block hw]
    rcases s with _ | _ | _ | _ | _ | _ | _ | _ | _ | s <;> first | rfl | omega
  have s9 : (s : Int) < 9 := by omega
  refine lx_rd 0 (.agg #[.int .i64 h.o, .int .u64 h.n, .int .i64 h.i, .int .u64 h.m]) (by kernel_rfl) (fun _ _ d _ _ h => by cases d <;> exact h) (by kernel_rfl) HW rfl rfl rfl (fun w' hS => ?hP0) ?_
  case hP0 => have z0 := hS.1.c0; have z1 := hS.1.c1; have z2 := hS.1.c2; have z3 := hS.1.c3; first | (go_simp; rfl) | go_simp
  simp only [List.setIfInBounds_toArray, List.set_cons_zero, List.set_cons_succ]
  refine lx_rd 2 ?vP2 (by kernel_rfl) (fun _ _ d _ _ h => by cases d <;> exact h) (by kernel_rfl) HW rfl rfl rfl (fun w' hS => ?hP2) ?_
  case hP2 => first | (go_simp; rfl) | go_simp
  simp only [List.setIfInBounds_toArray, List.set_cons_zero, List.set_cons_succ]
  refine lx_rd 3 (.pointer (some ⟨w1.heap.size + 1, s, none⟩)) (by kernel_rfl) (fun _ _ d _ _ h => by cases d <;> exact h) (by kernel_rfl) HW rfl rfl rfl (fun w' hS => ?hP3) ?_
  case hP3 => first | (go_simp; rfl) | go_simp
  simp only [List.setIfInBounds_toArray, List.set_cons_zero, List.set_cons_succ]
  refine lx_rd 4 (.string (nmT.getD s ⟨#[]⟩)) (by kernel_rfl) (fun _ _ d _ _ h => by cases d <;> exact h) (by kernel_rfl) HW rfl rfl rfl (fun w' hS => ?hP4) ?_
  case hP4 => have z0 := nc _ hS.2; first | (go_simp; rfl) | go_simp
  simp only [List.setIfInBounds_toArray, List.set_cons_zero, List.set_cons_succ]
  refine lx_one 1 (by kernel_rfl) (stepT_call 7 ?cP rfl rfl rfl ?dP ?_)
  case dP => first | (go_simp; rfl) | go_simp
  refine cS.mono ?_
  rintro e w2 ⟨rfl, hb2⟩
  have A2 := HW.1.below hb2 HW.1.lt
  have N2 := box_below HW.2 hb2
  have b5 := b4.trans (hb2.mono b4.size)
  refine ⟨_, rfl, fun _ => ⟨A2, N2⟩, ?_⟩
  simp only [List.setIfInBounds_toArray, List.set_cons_zero, List.set_cons_succ]
  generalize nmT.getD s ⟨#[]⟩ = nm
  refine lx_one 5 (by kernel_rfl) (stepT_val (w' := w2) (.bool false) rfl rfl rfl ?vP (fun _ => ⟨A2, N2⟩) ?_)
  case vP => first | (go_simp; rfl) | (go_simp; done)
  simp only [List.setIfInBounds_toArray, List.set_cons_zero, List.set_cons_succ]
  refine lx_nil (by kernel_rfl) ?_
  have H0 : Hid (Tt w w1.heap.size (w1.heap.size + 1) w2.heap.size (w2.heap.size + 4) h _) := tt_new w w2 _ _ h A2 N2 b5
  generalize w1.heap.size = bh at *
  clear HW A2 N2 b4 b5 hb1 hb2 cS nc hk hnm
  go_wp2_with fail
  go_loopg [14, 15, 16, 17, 18, 19, 20, 21] 4 (fun kx s14 _ _ _ _ _ _ _ wr => ∃ i : Nat, s14 = .int .i64 i ∧ i + kx = 4 ∧ Hid (Tt w bh (bh + 1) w2.heap.size (w2.heap.size + 4) h wr))
  case atStart => exact ⟨0, rfl, rfl, H0⟩
  case round =>
    clear H0
    obtain ⟨i, rfl, hik, HT⟩ := hrel
    generalize bh + 1 = bn at *
    generalize w2.heap.size + 4 = T at *
    generalize w2.heap.size = bA at *
    by_cases hi4 : i < 4
    · have hiz : (i : Int) < 4 := by omega
      have hA := HAct.out i hi4
      have cA := fun w => Act_any h (kiT i) (n + 1) w
      generalize actA h (kiT i) (n + 1) = r at cA hA
      obtain ⟨⟨t, mm, nn⟩, en⟩ := r
      have he : en = 0 := hA.1
      subst he
      unfold actV hfv hfc at cA
      simp only at cA
      have hA2 : Hid ((wnT i s < 0 ∧ mm = 0 ∧ t = h) ∨ (0 ≤ wnT i s ∧ wnT i s < 9 ∧ mm = maT i ∧ names t = nmT.getD (wnT i s).toNat ⟨#[]⟩)) := hA.2
      clear hA
      go_upto_region 15 with fail
      go_cut [15, 16, 17, 18] from 55 to 186 (fun s15 s16 _ s18 wx => ∃ g : Nat, s15 = .pointer (some ⟨g, 0, none⟩) ∧ s16 = .int .i64 mm ∧ s18 = .int .i64 0 ∧ T ≤ g ∧ Hid (Tt w bh bn bA T h wx) ∧ Hid (HfAt wx g t))
      case first => as_aux_lemma =>
        refine wp_region_lx (fun w' => Tt w bh bn bA T h w') [] 18 (by kernel_rfl) (by kernel_rfl) ?_
        have HW : Tt w bh bn bA T h wr.drew := HT.out.below ((Below.refl _ _).drew)
        clear HT
        generalize wr.drew = W at HW ⊢
        refine lx_rd 0 (.agg #[.int .i64 h.o, .int .u64 h.n, .int .i64 h.i, .int .u64 h.m]) (by kernel_rfl) (fun _ _ d _ _ h => by cases d <;> exact h) (by kernel_rfl) HW rfl rfl rfl (fun w' hS => ?hA0) ?_
        case hA0 => have z0 := hS.ah.c0; have z1 := hS.ah.c1; have z2 := hS.ah.c2; have z3 := hS.ah.c3; first | (go_simp; rfl) | go_simp
        simp only [List.setIfInBounds_toArray, List.set_cons_zero, List.set_cons_succ]
        refine lx_rd 1 ?vA1 (by kernel_rfl) (fun _ _ d _ _ h => by cases d <;> exact h) (by kernel_rfl) HW rfl rfl rfl (fun w' hS => ?hA1) ?_
        case hA1 => first | (go_simp; rfl) | go_simp
        simp only [List.setIfInBounds_toArray, List.set_cons_zero, List.set_cons_succ]
        refine lx_rd 2 ?vA2 (by kernel_rfl) (fun _ _ d _ _ h => by cases d <;> exact h) (by kernel_rfl) HW rfl rfl rfl (fun w' hS => ?hA2) ?_
        case hA2 => first | (go_simp; rfl) | go_simp
        simp only [List.setIfInBounds_toArray, List.set_cons_zero, List.set_cons_succ]
        refine lx_rd 3 (.pointer (some ⟨bA, i, none⟩)) (by kernel_rfl) (fun _ _ d _ _ h => by cases d <;> exact h) (by kernel_rfl) HW rfl rfl rfl (fun w' hS => ?hA3) ?_
        case hA3 => first | (go_simp; rfl) | go_simp
        simp only [List.setIfInBounds_toArray, List.set_cons_zero, List.set_cons_succ]
        refine lx_rd 4 (.int .i64 (kiT i)) (by kernel_rfl) (fun _ _ d _ _ h => by cases d <;> exact h) (by kernel_rfl) HW rfl rfl rfl (fun w' hS => ?hA4) ?_
        case hA4 => have z0 := hS.aA i hi4; first | (go_simp; rfl) | go_simp
        simp only [List.setIfInBounds_toArray, List.set_cons_zero, List.set_cons_succ]
        refine lx_rd 5 ?vA5 (by kernel_rfl) (fun _ _ d _ _ h => by cases d <;> exact h) (by kernel_rfl) HW rfl rfl rfl (fun w' hS => ?hA5) ?_
        case hA5 => first | (go_simp; rfl) | go_simp
        simp only [List.setIfInBounds_toArray, List.set_cons_zero, List.set_cons_succ]
        refine lx_rd 6 (.int .u64 (n + 1)) (by kernel_rfl) (fun _ _ d _ _ h => by cases d <;> exact h) (by kernel_rfl) HW rfl rfl rfl (fun w' hS => ?hA6) ?_
        case hA6 => have z0 : IntKind.u64.wrap (n + 1) = n + 1 := wu64 (by omega) (by omega); first | (go_simp; rfl) | go_simp
        simp only [List.setIfInBounds_toArray, List.set_cons_zero, List.set_cons_succ]
        refine lx_two 7 13 (by kernel_rfl) ?_ ?_
        · refine stepT_call 8 ?cA1 rfl rfl rfl ?dA1 ?_
          case dA1 => first | (go_simp; rfl) | go_simp
          refine (cA W).mono ?_
          rintro e w5 ⟨rfl, hb1⟩
          have HWc := HW.below hb1
          refine ⟨_, rfl, fun _ => HWc, ?_⟩
          simp only [List.setIfInBounds_toArray, List.set_cons_zero, List.set_cons_succ]
          refine lx_rd 8 ?vAa8 (by kernel_rfl) (fun _ _ d _ _ h => by cases d <;> exact h) (by kernel_rfl) HWc rfl rfl rfl (fun w' hS => ?hAa8) ?_
          case hAa8 => first | (go_simp; rfl) | go_simp
          simp only [List.setIfInBounds_toArray, List.set_cons_zero, List.set_cons_succ]
          refine lx_rd 9 ?vAa9 (by kernel_rfl) (fun _ _ d _ _ h => by cases d <;> exact h) (by kernel_rfl) HWc rfl rfl rfl (fun w' hS => ?hAa9) ?_
          case hAa9 => first | (go_simp; rfl) | go_simp
          simp only [List.setIfInBounds_toArray, List.set_cons_zero, List.set_cons_succ]
          refine lx_rd 10 ?vAa10 (by kernel_rfl) (fun _ _ d _ _ h => by cases d <;> exact h) (by kernel_rfl) HWc rfl rfl rfl (fun w' hS => ?hAa10) ?_
          case hAa10 => first | (go_simp; rfl) | go_simp
          simp only [List.setIfInBounds_toArray, List.set_cons_zero, List.set_cons_succ]
          refine lx_rd 11 ?vAa11 (by kernel_rfl) (fun _ _ d _ _ h => by cases d <;> exact h) (by kernel_rfl) HWc rfl rfl rfl (fun w' hS => ?hAa11) ?_
          case hAa11 => first | (go_simp; rfl) | go_simp
          simp only [List.setIfInBounds_toArray, List.set_cons_zero, List.set_cons_succ]
          refine lx_rd 12 ?vAa12 (by kernel_rfl) (fun _ _ d _ _ h => by cases d <;> exact h) (by kernel_rfl) HWc rfl rfl rfl (fun w' hS => ?hAa12) ?_
          case hAa12 => first | (go_simp; rfl) | go_simp
          simp only [List.setIfInBounds_toArray, List.set_cons_zero, List.set_cons_succ]
          refine lx_one 13 (by kernel_rfl) ?_
          have hb2 := below1 w5 (.cells #[.int .i64 0, .int .u64 0, .int .i64 0, .int .u64 0] 24)
          have HWca := HWc.below hb2
          have G2 : HfAt (w5.alloc (.cells #[.int .i64 0, .int .u64 0, .int .i64 0, .int .u64 0] 24)) w5.heap.size ⟨0, 0, 0, 0⟩ := push_at _ _ rfl
          have gl : T ≤ w5.heap.size := HWc.tz
          refine stepT_val (w' := w5.alloc (.cells #[.int .i64 0, .int .u64 0, .int .i64 0, .int .u64 0] 24)) (.pointer (some ⟨w5.heap.size, 0, none⟩)) rfl rfl rfl ?dA2 (fun _ => HWca) ?_
          case dA2 => first | (go_simp; rfl) | go_simp
          simp only [List.setIfInBounds_toArray, List.set_cons_zero, List.set_cons_succ]
          have R2 : Tt w bh bn bA T h ((w5.alloc (.cells #[.int .i64 0, .int .u64 0, .int .i64 0, .int .u64 0] 24)).setRow w5.heap.size (hfc t)) := HWca.row gl G2 t
          have G9 : HfAt ((w5.alloc (.cells #[.int .i64 0, .int .u64 0, .int .i64 0, .int .u64 0] 24)).setRow w5.heap.size (hfc t)) w5.heap.size t := G2.set t
          refine lx_one 14 (by kernel_rfl) (stepT_store (w' := (w5.alloc (.cells #[.int .i64 0, .int .u64 0, .int .i64 0, .int .u64 0] 24)).setRow w5.heap.size (hfc t)) rfl rfl rfl ?sA1 (fun _ => R2) ?_)
          case sA1 => exact exec_store_half (.tmp 15) (.tmp 68) rfl w5.heap.size rfl t rfl _ G2
          generalize (w5.alloc (.cells #[.int .i64 0, .int .u64 0, .int .i64 0, .int .u64 0] 24)).setRow w5.heap.size (hfc t) = WY at R2 G9 ⊢
          refine lx_one 15 (by kernel_rfl) (stepT_val (w' := WY) (.int .i64 mm) rfl rfl rfl ?vA10 (fun _ => R2) ?_)
          case vA10 => first | (go_simp; rfl) | (go_simp; done)
          simp only [List.setIfInBounds_toArray, List.set_cons_zero, List.set_cons_succ]
          refine lx_one 16 (by kernel_rfl) (stepT_val (w' := WY) (.int .u64 nn) rfl rfl rfl ?vA11 (fun _ => R2) ?_)
          case vA11 => first | (go_simp; rfl) | (go_simp; done)
          simp only [List.setIfInBounds_toArray, List.set_cons_zero, List.set_cons_succ]
          refine lx_one 17 (by kernel_rfl) (stepT_val (w' := WY) (.int .i64 0) rfl rfl rfl ?vA12 (fun _ => R2) ?_)
          case vA12 => first | (go_simp; rfl) | (go_simp; done)
          simp only [List.setIfInBounds_toArray, List.set_cons_zero, List.set_cons_succ]
          refine lx_nil (by kernel_rfl) ?_
          go_wp2_with fail
          go_meet
          exact ⟨w5.heap.size, rfl, rfl, rfl, gl, R2, G9⟩
        · have hb3 := below1 W (.cells #[.int .i64 0, .int .u64 0, .int .i64 0, .int .u64 0] 24)
          have HWa := HW.below hb3
          have G3 : HfAt (W.alloc (.cells #[.int .i64 0, .int .u64 0, .int .i64 0, .int .u64 0] 24)) W.heap.size ⟨0, 0, 0, 0⟩ := push_at _ _ rfl
          have gl : T ≤ W.heap.size := HW.tz
          refine stepT_val (w' := W.alloc (.cells #[.int .i64 0, .int .u64 0, .int .i64 0, .int .u64 0] 24)) (.pointer (some ⟨W.heap.size, 0, none⟩)) rfl rfl rfl ?dA3 (fun _ => HWa) ?_
          case dA3 => first | (go_simp; rfl) | go_simp
          simp only [List.setIfInBounds_toArray, List.set_cons_zero, List.set_cons_succ]
          refine lx_one 7 (by kernel_rfl) ?_
          refine stepT_call 8 ?cA4 rfl rfl rfl ?dA4 ?_
          case dA4 => first | (go_simp; rfl) | go_simp
          refine (cA (W.alloc (.cells #[.int .i64 0, .int .u64 0, .int .i64 0, .int .u64 0] 24))).mono ?_
          rintro e w6 ⟨rfl, hb4⟩
          have HWac := HWa.below hb4
          refine ⟨_, rfl, fun _ => HWac, ?_⟩
          simp only [List.setIfInBounds_toArray, List.set_cons_zero, List.set_cons_succ]
          have G4 : HfAt w6 W.heap.size ⟨0, 0, 0, 0⟩ := G3.below hb4 G3.lt
          refine lx_rd 8 ?vAb8 (by kernel_rfl) (fun _ _ d _ _ h => by cases d <;> exact h) (by kernel_rfl) HWac rfl rfl rfl (fun w' hS => ?hAb8) ?_
          case hAb8 => first | (go_simp; rfl) | go_simp
          simp only [List.setIfInBounds_toArray, List.set_cons_zero, List.set_cons_succ]
          refine lx_rd 9 ?vAb9 (by kernel_rfl) (fun _ _ d _ _ h => by cases d <;> exact h) (by kernel_rfl) HWac rfl rfl rfl (fun w' hS => ?hAb9) ?_
          case hAb9 => first | (go_simp; rfl) | go_simp
          simp only [List.setIfInBounds_toArray, List.set_cons_zero, List.set_cons_succ]
          refine lx_rd 10 ?vAb10 (by kernel_rfl) (fun _ _ d _ _ h => by cases d <;> exact h) (by kernel_rfl) HWac rfl rfl rfl (fun w' hS => ?hAb10) ?_
          case hAb10 => first | (go_simp; rfl) | go_simp
          simp only [List.setIfInBounds_toArray, List.set_cons_zero, List.set_cons_succ]
          refine lx_rd 11 ?vAb11 (by kernel_rfl) (fun _ _ d _ _ h => by cases d <;> exact h) (by kernel_rfl) HWac rfl rfl rfl (fun w' hS => ?hAb11) ?_
          case hAb11 => first | (go_simp; rfl) | go_simp
          simp only [List.setIfInBounds_toArray, List.set_cons_zero, List.set_cons_succ]
          refine lx_rd 12 ?vAb12 (by kernel_rfl) (fun _ _ d _ _ h => by cases d <;> exact h) (by kernel_rfl) HWac rfl rfl rfl (fun w' hS => ?hAb12) ?_
          case hAb12 => first | (go_simp; rfl) | go_simp
          simp only [List.setIfInBounds_toArray, List.set_cons_zero, List.set_cons_succ]
          have R2 : Tt w bh bn bA T h (w6.setRow W.heap.size (hfc t)) := HWac.row gl G4 t
          have G9 : HfAt (w6.setRow W.heap.size (hfc t)) W.heap.size t := G4.set t
          refine lx_one 14 (by kernel_rfl) (stepT_store (w' := w6.setRow W.heap.size (hfc t)) rfl rfl rfl ?sA2 (fun _ => R2) ?_)
          case sA2 => exact exec_store_half (.tmp 15) (.tmp 68) rfl W.heap.size rfl t rfl _ G4
          generalize w6.setRow W.heap.size (hfc t) = WY at R2 G9 ⊢
          refine lx_one 15 (by kernel_rfl) (stepT_val (w' := WY) (.int .i64 mm) rfl rfl rfl ?vA20 (fun _ => R2) ?_)
          case vA20 => first | (go_simp; rfl) | (go_simp; done)
          simp only [List.setIfInBounds_toArray, List.set_cons_zero, List.set_cons_succ]
          refine lx_one 16 (by kernel_rfl) (stepT_val (w' := WY) (.int .u64 nn) rfl rfl rfl ?vA21 (fun _ => R2) ?_)
          case vA21 => first | (go_simp; rfl) | (go_simp; done)
          simp only [List.setIfInBounds_toArray, List.set_cons_zero, List.set_cons_succ]
          refine lx_one 17 (by kernel_rfl) (stepT_val (w' := WY) (.int .i64 0) rfl rfl rfl ?vA22 (fun _ => R2) ?_)
          case vA22 => first | (go_simp; rfl) | (go_simp; done)
          simp only [List.setIfInBounds_toArray, List.set_cons_zero, List.set_cons_succ]
          refine lx_nil (by kernel_rfl) ?_
          go_wp2_with fail
          go_meet
          exact ⟨W.heap.size, rfl, rfl, rfl, gl, R2, G9⟩
      case rest =>
        clear HT
        obtain ⟨g, rfl, rfl, rfl, hg, HT, HG⟩ := hcut
        have cO := table_any i (by omega) wc
        have oc := HT.out.aO i hi4
        have hix := fun w => ix_any (tbT.getD i []) s (tb_len i (by omega)) hs9 w
        have ewt : (tbT.getD i []).getD s 0 = wnT i s := rfl
        rw [ewt] at hix
        generalize evT.getD i ⟨#[]⟩ = ev at cO oc
        generalize (ic .i64 (tbT.getD i [])).toArray = tr at cO hix
        go_upto_region 17 with (first
          | (go_at_call 9; refine cO.mono ?_; clear cO; rintro e w6 ⟨rfl, hb6⟩)
          | fail)
        clear hix oc ewt
        replace HG : Hid (HfAt w6 g t) := HG.out.below hb6 HG.out.lt
        replace HT : Hid (Tt w bh bn bA T h w6) := HT.out.below hb6
        generalize hwt : wnT i s = wt at *
        go_cut [117] from 55 to 186 (fun s117 wx => s117 = .bool false ∧ Hid (Tt w bh bn bA T h wx) ∧ Hid (HfAt wx g t))
        case first =>
          rcases hA2.out with ⟨hlt, hmm, ht⟩ | ⟨hge, hl9, hmm, hnm⟩
          · as_aux_lemma =>
            subst hmm
            obtain rfl := ht.symm
            have hl1 : ¬ (0 ≤ wt) := by omega
            have cS := fun w => same_yes h w
            unfold hfv hfc at cS
            clear hA2 hwt
            refine wp_region_lx (fun w' => (Tt w bh bn bA T h w' ∧ HfAt w' g h)) [] 39 (by kernel_rfl) (by kernel_rfl) ?_
            have HW : (Tt w bh bn bA T h w6.drew ∧ HfAt w6.drew g h) := ⟨HT.out.below ((Below.refl _ _).drew), HG.out.below ((Below.refl _ _).drew) HG.out.lt⟩
            clear HT HG
            generalize w6.drew = W at HW ⊢
            refine lx_rd 0 ?vB0 (by kernel_rfl) (fun _ _ d _ _ h => by cases d <;> exact h) (by kernel_rfl) HW rfl rfl rfl (fun w' hS => ?hB0) ?_
            case hB0 => first | (go_simp; rfl) | go_simp
            simp only [List.setIfInBounds_toArray, List.set_cons_zero, List.set_cons_succ]
            refine lx_rd 1 (.bool false) (by kernel_rfl) (fun _ _ d _ _ h => by cases d <;> exact h) (by kernel_rfl) HW rfl rfl rfl (fun w' hS => ?hB1) ?_
            case hB1 => first | (go_simp; rfl) | go_simp
            simp only [List.setIfInBounds_toArray, List.set_cons_zero, List.set_cons_succ]
            refine lx_rd 2 ?vB2 (by kernel_rfl) (fun _ _ d _ _ h => by cases d <;> exact h) (by kernel_rfl) HW rfl rfl rfl (fun w' hS => ?hB2) ?_
            case hB2 => first | (go_simp; rfl) | go_simp
            simp only [List.setIfInBounds_toArray, List.set_cons_zero, List.set_cons_succ]
            refine lx_rd 3 ?vB3 (by kernel_rfl) (fun _ _ d _ _ h => by cases d <;> exact h) (by kernel_rfl) HW rfl rfl rfl (fun w' hS => ?hB3) ?_
            case hB3 => first | (go_simp; rfl) | go_simp
            simp only [List.setIfInBounds_toArray, List.set_cons_zero, List.set_cons_succ]
            refine lx_rd 4 (.bool true) (by kernel_rfl) (fun _ _ d _ _ h => by cases d <;> exact h) (by kernel_rfl) HW rfl rfl rfl (fun w' hS => ?hB4) ?_
            case hB4 => first | (go_simp; rfl) | go_simp
            simp only [List.setIfInBounds_toArray, List.set_cons_zero, List.set_cons_succ]
            refine lx_rd 5 ?vB5 (by kernel_rfl) (fun _ _ d _ _ h => by cases d <;> exact h) (by kernel_rfl) HW rfl rfl rfl (fun w' hS => ?hB5) ?_
            case hB5 => first | (go_simp; rfl) | go_simp
            simp only [List.setIfInBounds_toArray, List.set_cons_zero, List.set_cons_succ]
            refine lx_rd 6 (.bool true) (by kernel_rfl) (fun _ _ d _ _ h => by cases d <;> exact h) (by kernel_rfl) HW rfl rfl rfl (fun w' hS => ?hB6) ?_
            case hB6 => first | (go_simp; rfl) | go_simp
            simp only [List.setIfInBounds_toArray, List.set_cons_zero, List.set_cons_succ]
            refine lx_rd 7 (.bool false) (by kernel_rfl) (fun _ _ d _ _ h => by cases d <;> exact h) (by kernel_rfl) HW rfl rfl rfl (fun w' hS => ?hB7) ?_
            case hB7 => first | (go_simp; rfl) | go_simp
            simp only [List.setIfInBounds_toArray, List.set_cons_zero, List.set_cons_succ]
            refine lx_rd 8 (.bool false) (by kernel_rfl) (fun _ _ d _ _ h => by cases d <;> exact h) (by kernel_rfl) HW rfl rfl rfl (fun w' hS => ?hB8) ?_
            case hB8 => first | (go_simp; rfl) | go_simp
            simp only [List.setIfInBounds_toArray, List.set_cons_zero, List.set_cons_succ]
            refine lx_rd 9 ?vB9 (by kernel_rfl) (fun _ _ d _ _ h => by cases d <;> exact h) (by kernel_rfl) HW rfl rfl rfl (fun w' hS => ?hB9) ?_
            case hB9 => first | (go_simp; rfl) | go_simp
            simp only [List.setIfInBounds_toArray, List.set_cons_zero, List.set_cons_succ]
            refine lx_rd 10 ?vB10 (by kernel_rfl) (fun _ _ d _ _ h => by cases d <;> exact h) (by kernel_rfl) HW rfl rfl rfl (fun w' hS => ?hB10) ?_
            case hB10 => first | (go_simp; rfl) | go_simp
            simp only [List.setIfInBounds_toArray, List.set_cons_zero, List.set_cons_succ]
            refine lx_rd 11 (.bool true) (by kernel_rfl) (fun _ _ d _ _ h => by cases d <;> exact h) (by kernel_rfl) HW rfl rfl rfl (fun w' hS => ?hB11) ?_
            case hB11 => first | (go_simp; rfl) | go_simp
            simp only [List.setIfInBounds_toArray, List.set_cons_zero, List.set_cons_succ]
            refine lx_rd 12 ?vB12 (by kernel_rfl) (fun _ _ d _ _ h => by cases d <;> exact h) (by kernel_rfl) HW rfl rfl rfl (fun w' hS => ?hB12) ?_
            case hB12 => first | (go_simp; rfl) | go_simp
            simp only [List.setIfInBounds_toArray, List.set_cons_zero, List.set_cons_succ]
            refine lx_rd 13 (.agg #[.int .i64 h.o, .int .u64 h.n, .int .i64 h.i, .int .u64 h.m]) (by kernel_rfl) (fun _ _ d _ _ h => by cases d <;> exact h) (by kernel_rfl) HW rfl rfl rfl (fun w' hS => ?hB13) ?_
            case hB13 => have zz := hS.2; have z0 := hS.1.ah.c0; have z1 := hS.1.ah.c1; have z2 := hS.1.ah.c2; have z3 := hS.1.ah.c3; have y0 := zz.c0; have y1 := zz.c1; have y2 := zz.c2; have y3 := zz.c3; first | (go_simp; rfl) | go_simp
            simp only [List.setIfInBounds_toArray, List.set_cons_zero, List.set_cons_succ]
            refine lx_rd 14 (.agg #[.int .i64 h.o, .int .u64 h.n, .int .i64 h.i, .int .u64 h.m]) (by kernel_rfl) (fun _ _ d _ _ h => by cases d <;> exact h) (by kernel_rfl) HW rfl rfl rfl (fun w' hS => ?hB14) ?_
            case hB14 => have z0 := hS.1.ah.c0; have z1 := hS.1.ah.c1; have z2 := hS.1.ah.c2; have z3 := hS.1.ah.c3; first | (go_simp; rfl) | go_simp
            simp only [List.setIfInBounds_toArray, List.set_cons_zero, List.set_cons_succ]
            refine lx_one 15 (by kernel_rfl) (stepT_call 10 ?cB rfl rfl rfl ?dB ?_)
            case dB => first | (go_simp; rfl) | go_simp
            refine (cS W).mono ?_
            rintro e w8 ⟨rfl, hb8⟩
            have HV8 : (Tt w bh bn bA T h w8 ∧ HfAt w8 g h) := ⟨HW.1.below hb8, HW.2.below hb8 HW.2.lt⟩
            refine ⟨_, rfl, fun _ => HV8, ?_⟩
            simp only [List.setIfInBounds_toArray, List.set_cons_zero, List.set_cons_succ]
            refine lx_rd 16 (.bool false) (by kernel_rfl) (fun _ _ d _ _ h => by cases d <;> exact h) (by kernel_rfl) HV8 rfl rfl rfl (fun w' hS => ?hBb16) ?_
            case hBb16 => first | (go_simp; rfl) | go_simp
            simp only [List.setIfInBounds_toArray, List.set_cons_zero, List.set_cons_succ]
            refine lx_rd 17 (.bool false) (by kernel_rfl) (fun _ _ d _ _ h => by cases d <;> exact h) (by kernel_rfl) HV8 rfl rfl rfl (fun w' hS => ?hBb17) ?_
            case hBb17 => first | (go_simp; rfl) | go_simp
            simp only [List.setIfInBounds_toArray, List.set_cons_zero, List.set_cons_succ]
            refine lx_rd 18 (.bool false) (by kernel_rfl) (fun _ _ d _ _ h => by cases d <;> exact h) (by kernel_rfl) HV8 rfl rfl rfl (fun w' hS => ?hBb18) ?_
            case hBb18 => first | (go_simp; rfl) | go_simp
            simp only [List.setIfInBounds_toArray, List.set_cons_zero, List.set_cons_succ]
            refine lx_rd 19 ?vBb19 (by kernel_rfl) (fun _ _ d _ _ h => by cases d <;> exact h) (by kernel_rfl) HV8 rfl rfl rfl (fun w' hS => ?hBb19) ?_
            case hBb19 => first | (go_simp; rfl) | go_simp
            simp only [List.setIfInBounds_toArray, List.set_cons_zero, List.set_cons_succ]
            refine lx_rd 20 ?vBb20 (by kernel_rfl) (fun _ _ d _ _ h => by cases d <;> exact h) (by kernel_rfl) HV8 rfl rfl rfl (fun w' hS => ?hBb20) ?_
            case hBb20 => first | (go_simp; rfl) | go_simp
            simp only [List.setIfInBounds_toArray, List.set_cons_zero, List.set_cons_succ]
            refine lx_rd 21 (.bool false) (by kernel_rfl) (fun _ _ d _ _ h => by cases d <;> exact h) (by kernel_rfl) HV8 rfl rfl rfl (fun w' hS => ?hBb21) ?_
            case hBb21 => first | (go_simp; rfl) | go_simp
            simp only [List.setIfInBounds_toArray, List.set_cons_zero, List.set_cons_succ]
            refine lx_rd 22 ?vBb22 (by kernel_rfl) (fun _ _ d _ _ h => by cases d <;> exact h) (by kernel_rfl) HV8 rfl rfl rfl (fun w' hS => ?hBb22) ?_
            case hBb22 => first | (go_simp; rfl) | go_simp
            simp only [List.setIfInBounds_toArray, List.set_cons_zero, List.set_cons_succ]
            refine lx_skip 23 (by kernel_rfl) (fun _ _ d _ _ h => by cases d <;> exact h) (by kernel_rfl) HV8 rfl rfl rfl ?_
            simp only [List.setIfInBounds_toArray, List.set_cons_zero, List.set_cons_succ]
            refine lx_skip 24 (by kernel_rfl) (fun _ _ d _ _ h => by cases d <;> exact h) (by kernel_rfl) HV8 rfl rfl rfl ?_
            simp only [List.setIfInBounds_toArray, List.set_cons_zero, List.set_cons_succ]
            refine lx_skip 25 (by kernel_rfl) (fun _ _ d _ _ h => by cases d <;> exact h) (by kernel_rfl) HV8 rfl rfl rfl ?_
            simp only [List.setIfInBounds_toArray, List.set_cons_zero, List.set_cons_succ]
            refine lx_skip 26 (by kernel_rfl) (fun _ _ d _ _ h => by cases d <;> exact h) (by kernel_rfl) HV8 rfl rfl rfl ?_
            simp only [List.setIfInBounds_toArray, List.set_cons_zero, List.set_cons_succ]
            refine lx_skip 27 (by kernel_rfl) (fun _ _ d _ _ h => by cases d <;> exact h) (by kernel_rfl) HV8 rfl rfl rfl ?_
            simp only [List.setIfInBounds_toArray, List.set_cons_zero, List.set_cons_succ]
            refine lx_skip 28 (by kernel_rfl) (fun _ _ d _ _ h => by cases d <;> exact h) (by kernel_rfl) HV8 rfl rfl rfl ?_
            simp only [List.setIfInBounds_toArray, List.set_cons_zero, List.set_cons_succ]
            refine lx_skip 29 (by kernel_rfl) (fun _ _ d _ _ h => by cases d <;> exact h) (by kernel_rfl) HV8 rfl rfl rfl ?_
            simp only [List.setIfInBounds_toArray, List.set_cons_zero, List.set_cons_succ]
            refine lx_skip 30 (by kernel_rfl) (fun _ _ d _ _ h => by cases d <;> exact h) (by kernel_rfl) HV8 rfl rfl rfl ?_
            simp only [List.setIfInBounds_toArray, List.set_cons_zero, List.set_cons_succ]
            refine lx_skip 31 (by kernel_rfl) (fun _ _ d _ _ h => by cases d <;> exact h) (by kernel_rfl) HV8 rfl rfl rfl ?_
            simp only [List.setIfInBounds_toArray, List.set_cons_zero, List.set_cons_succ]
            refine lx_skip 32 (by kernel_rfl) (fun _ _ d _ _ h => by cases d <;> exact h) (by kernel_rfl) HV8 rfl rfl rfl ?_
            simp only [List.setIfInBounds_toArray, List.set_cons_zero, List.set_cons_succ]
            refine lx_skip 33 (by kernel_rfl) (fun _ _ d _ _ h => by cases d <;> exact h) (by kernel_rfl) HV8 rfl rfl rfl ?_
            simp only [List.setIfInBounds_toArray, List.set_cons_zero, List.set_cons_succ]
            refine lx_skip 34 (by kernel_rfl) (fun _ _ d _ _ h => by cases d <;> exact h) (by kernel_rfl) HV8 rfl rfl rfl ?_
            simp only [List.setIfInBounds_toArray, List.set_cons_zero, List.set_cons_succ]
            refine lx_skip 35 (by kernel_rfl) (fun _ _ d _ _ h => by cases d <;> exact h) (by kernel_rfl) HV8 rfl rfl rfl ?_
            simp only [List.setIfInBounds_toArray, List.set_cons_zero, List.set_cons_succ]
            refine lx_skip 36 (by kernel_rfl) (fun _ _ d _ _ h => by cases d <;> exact h) (by kernel_rfl) HV8 rfl rfl rfl ?_
            simp only [List.setIfInBounds_toArray, List.set_cons_zero, List.set_cons_succ]
            refine lx_rd 37 (.bool false) (by kernel_rfl) (fun _ _ d _ _ h => by cases d <;> exact h) (by kernel_rfl) HV8 rfl rfl rfl (fun w' hS => ?hBd37) ?_
            case hBd37 => first | (go_simp; rfl) | go_simp
            simp only [List.setIfInBounds_toArray, List.set_cons_zero, List.set_cons_succ]
            refine lx_rd 38 (.bool false) (by kernel_rfl) (fun _ _ d _ _ h => by cases d <;> exact h) (by kernel_rfl) HV8 rfl rfl rfl (fun w' hS => ?hBd38) ?_
            case hBd38 => first | (go_simp; rfl) | go_simp
            simp only [List.setIfInBounds_toArray, List.set_cons_zero, List.set_cons_succ]
            refine lx_nil (by kernel_rfl) ?_
            go_wp2_with fail
            go_meet
            exact ⟨rfl, HV8.1, HV8.2⟩
          · as_aux_lemma =>
            subst hmm
            obtain ⟨q, rfl⟩ : ∃ q : Nat, wt = (q : Int) := ⟨wt.toNat, by omega⟩
            have hq9 : q < 9 := by omega
            have hl1 : ¬ ((q : Int) < 0) := by omega
            have hmz := ma_pos i hi4
            have cT := fun wz hz => fState_any t wz hz
            rw [hnm] at cT
            unfold hfv hfc at cT
            simp only [Int.toNat_natCast] at cT
            clear hA2 hwt hnm
            refine wp_region_lx (fun w' => (Tt w bh bn bA T h w' ∧ HfAt w' g t)) [] 39 (by kernel_rfl) (by kernel_rfl) ?_
            have HW : (Tt w bh bn bA T h w6.drew ∧ HfAt w6.drew g t) := ⟨HT.out.below ((Below.refl _ _).drew), HG.out.below ((Below.refl _ _).drew) HG.out.lt⟩
            clear HT HG
            generalize w6.drew = W at HW ⊢
            refine lx_rd 0 ?vC0 (by kernel_rfl) (fun _ _ d _ _ h => by cases d <;> exact h) (by kernel_rfl) HW rfl rfl rfl (fun w' hS => ?hC0) ?_
            case hC0 => first | (go_simp; rfl) | go_simp
            simp only [List.setIfInBounds_toArray, List.set_cons_zero, List.set_cons_succ]
            refine lx_rd 1 (.bool false) (by kernel_rfl) (fun _ _ d _ _ h => by cases d <;> exact h) (by kernel_rfl) HW rfl rfl rfl (fun w' hS => ?hC1) ?_
            case hC1 => first | (go_simp; rfl) | go_simp
            simp only [List.setIfInBounds_toArray, List.set_cons_zero, List.set_cons_succ]
            refine lx_rd 2 ?vC2 (by kernel_rfl) (fun _ _ d _ _ h => by cases d <;> exact h) (by kernel_rfl) HW rfl rfl rfl (fun w' hS => ?hC2) ?_
            case hC2 => first | (go_simp; rfl) | go_simp
            simp only [List.setIfInBounds_toArray, List.set_cons_zero, List.set_cons_succ]
            refine lx_rd 3 ?vC3 (by kernel_rfl) (fun _ _ d _ _ h => by cases d <;> exact h) (by kernel_rfl) HW rfl rfl rfl (fun w' hS => ?hC3) ?_
            case hC3 => first | (go_simp; rfl) | go_simp
            simp only [List.setIfInBounds_toArray, List.set_cons_zero, List.set_cons_succ]
            refine lx_rd 4 (.bool false) (by kernel_rfl) (fun _ _ d _ _ h => by cases d <;> exact h) (by kernel_rfl) HW rfl rfl rfl (fun w' hS => ?hC4) ?_
            case hC4 => first | (go_simp; rfl) | go_simp
            simp only [List.setIfInBounds_toArray, List.set_cons_zero, List.set_cons_succ]
            refine lx_rd 5 ?vC5 (by kernel_rfl) (fun _ _ d _ _ h => by cases d <;> exact h) (by kernel_rfl) HW rfl rfl rfl (fun w' hS => ?hC5) ?_
            case hC5 => first | (go_simp; rfl) | go_simp
            simp only [List.setIfInBounds_toArray, List.set_cons_zero, List.set_cons_succ]
            refine lx_rd 6 (.bool false) (by kernel_rfl) (fun _ _ d _ _ h => by cases d <;> exact h) (by kernel_rfl) HW rfl rfl rfl (fun w' hS => ?hC6) ?_
            case hC6 => first | (go_simp; rfl) | go_simp
            simp only [List.setIfInBounds_toArray, List.set_cons_zero, List.set_cons_succ]
            refine lx_rd 7 (.bool false) (by kernel_rfl) (fun _ _ d _ _ h => by cases d <;> exact h) (by kernel_rfl) HW rfl rfl rfl (fun w' hS => ?hC7) ?_
            case hC7 => first | (go_simp; rfl) | go_simp
            simp only [List.setIfInBounds_toArray, List.set_cons_zero, List.set_cons_succ]
            refine lx_rd 8 (.bool false) (by kernel_rfl) (fun _ _ d _ _ h => by cases d <;> exact h) (by kernel_rfl) HW rfl rfl rfl (fun w' hS => ?hC8) ?_
            case hC8 => first | (go_simp; rfl) | go_simp
            simp only [List.setIfInBounds_toArray, List.set_cons_zero, List.set_cons_succ]
            refine lx_rd 9 ?vC9 (by kernel_rfl) (fun _ _ d _ _ h => by cases d <;> exact h) (by kernel_rfl) HW rfl rfl rfl (fun w' hS => ?hC9) ?_
            case hC9 => first | (go_simp; rfl) | go_simp
            simp only [List.setIfInBounds_toArray, List.set_cons_zero, List.set_cons_succ]
            refine lx_rd 10 ?vC10 (by kernel_rfl) (fun _ _ d _ _ h => by cases d <;> exact h) (by kernel_rfl) HW rfl rfl rfl (fun w' hS => ?hC10) ?_
            case hC10 => first | (go_simp; rfl) | go_simp
            simp only [List.setIfInBounds_toArray, List.set_cons_zero, List.set_cons_succ]
            refine lx_rd 11 (.bool false) (by kernel_rfl) (fun _ _ d _ _ h => by cases d <;> exact h) (by kernel_rfl) HW rfl rfl rfl (fun w' hS => ?hC11) ?_
            case hC11 => first | (go_simp; rfl) | go_simp
            simp only [List.setIfInBounds_toArray, List.set_cons_zero, List.set_cons_succ]
            refine lx_rd 12 ?vC12 (by kernel_rfl) (fun _ _ d _ _ h => by cases d <;> exact h) (by kernel_rfl) HW rfl rfl rfl (fun w' hS => ?hC12) ?_
            case hC12 => first | (go_simp; rfl) | go_simp
            simp only [List.setIfInBounds_toArray, List.set_cons_zero, List.set_cons_succ]
            refine lx_skip 13 (by kernel_rfl) (fun _ _ d _ _ h => by cases d <;> exact h) (by kernel_rfl) HW rfl rfl rfl ?_
            simp only [List.setIfInBounds_toArray, List.set_cons_zero, List.set_cons_succ]
            refine lx_skip 14 (by kernel_rfl) (fun _ _ d _ _ h => by cases d <;> exact h) (by kernel_rfl) HW rfl rfl rfl ?_
            simp only [List.setIfInBounds_toArray, List.set_cons_zero, List.set_cons_succ]
            refine lx_skip 15 (by kernel_rfl) (fun _ _ d _ _ h => by cases d <;> exact h) (by kernel_rfl) HW rfl rfl rfl ?_
            simp only [List.setIfInBounds_toArray, List.set_cons_zero, List.set_cons_succ]
            refine lx_skip 16 (by kernel_rfl) (fun _ _ d _ _ h => by cases d <;> exact h) (by kernel_rfl) HW rfl rfl rfl ?_
            simp only [List.setIfInBounds_toArray, List.set_cons_zero, List.set_cons_succ]
            refine lx_rd 17 (.bool false) (by kernel_rfl) (fun _ _ d _ _ h => by cases d <;> exact h) (by kernel_rfl) HW rfl rfl rfl (fun w' hS => ?hCb17) ?_
            case hCb17 => first | (go_simp; rfl) | go_simp
            simp only [List.setIfInBounds_toArray, List.set_cons_zero, List.set_cons_succ]
            refine lx_rd 18 (.bool false) (by kernel_rfl) (fun _ _ d _ _ h => by cases d <;> exact h) (by kernel_rfl) HW rfl rfl rfl (fun w' hS => ?hCb18) ?_
            case hCb18 => first | (go_simp; rfl) | go_simp
            simp only [List.setIfInBounds_toArray, List.set_cons_zero, List.set_cons_succ]
            refine lx_rd 19 ?vCb19 (by kernel_rfl) (fun _ _ d _ _ h => by cases d <;> exact h) (by kernel_rfl) HW rfl rfl rfl (fun w' hS => ?hCb19) ?_
            case hCb19 => first | (go_simp; rfl) | go_simp
            simp only [List.setIfInBounds_toArray, List.set_cons_zero, List.set_cons_succ]
            refine lx_rd 20 ?vCb20 (by kernel_rfl) (fun _ _ d _ _ h => by cases d <;> exact h) (by kernel_rfl) HW rfl rfl rfl (fun w' hS => ?hCb20) ?_
            case hCb20 => first | (go_simp; rfl) | go_simp
            simp only [List.setIfInBounds_toArray, List.set_cons_zero, List.set_cons_succ]
            refine lx_rd 21 (.bool true) (by kernel_rfl) (fun _ _ d _ _ h => by cases d <;> exact h) (by kernel_rfl) HW rfl rfl rfl (fun w' hS => ?hCb21) ?_
            case hCb21 => first | (go_simp; rfl) | go_simp
            simp only [List.setIfInBounds_toArray, List.set_cons_zero, List.set_cons_succ]
            refine lx_rd 22 ?vCb22 (by kernel_rfl) (fun _ _ d _ _ h => by cases d <;> exact h) (by kernel_rfl) HW rfl rfl rfl (fun w' hS => ?hCb22) ?_
            case hCb22 => first | (go_simp; rfl) | go_simp
            simp only [List.setIfInBounds_toArray, List.set_cons_zero, List.set_cons_succ]
            refine lx_rd 23 (.agg #[.int .i64 t.o, .int .u64 t.n, .int .i64 t.i, .int .u64 t.m]) (by kernel_rfl) (fun _ _ d _ _ h => by cases d <;> exact h) (by kernel_rfl) HW rfl rfl rfl (fun w' hS => ?hCb23) ?_
            case hCb23 => have z0 := hS.2.c0; have z1 := hS.2.c1; have z2 := hS.2.c2; have z3 := hS.2.c3; first | (go_simp; rfl) | go_simp
            simp only [List.setIfInBounds_toArray, List.set_cons_zero, List.set_cons_succ]
            refine lx_rd 25 ?vCb25 (by kernel_rfl) (fun _ _ d _ _ h => by cases d <;> exact h) (by kernel_rfl) HW rfl rfl rfl (fun w' hS => ?hCb25) ?_
            case hCb25 => first | (go_simp; rfl) | go_simp
            simp only [List.setIfInBounds_toArray, List.set_cons_zero, List.set_cons_succ]
            refine lx_rd 26 (.pointer (some ⟨bn, q, none⟩)) (by kernel_rfl) (fun _ _ d _ _ h => by cases d <;> exact h) (by kernel_rfl) HW rfl rfl rfl (fun w' hS => ?hCb26) ?_
            case hCb26 => first | (go_simp; rfl) | go_simp
            simp only [List.setIfInBounds_toArray, List.set_cons_zero, List.set_cons_succ]
            refine lx_rd 27 (.string (nmT.getD q ⟨#[]⟩)) (by kernel_rfl) (fun _ _ d _ _ h => by cases d <;> exact h) (by kernel_rfl) HW rfl rfl rfl (fun w' hS => ?hCb27) ?_
            case hCb27 => have z0 := hS.1.an q hq9; first | (go_simp; rfl) | go_simp
            simp only [List.setIfInBounds_toArray, List.set_cons_zero, List.set_cons_succ]
            refine lx_one 24 (by kernel_rfl) (stepT_call 7 ?cC rfl rfl rfl ?dC ?_)
            case dC => first | (go_simp; rfl) | go_simp
            refine (cT W (HTs.out.below HW.1.bl)).mono ?_
            rintro e w8 ⟨rfl, hb8⟩
            have HV8 : (Tt w bh bn bA T h w8 ∧ HfAt w8 g t) := ⟨HW.1.below hb8, HW.2.below hb8 HW.2.lt⟩
            refine ⟨_, rfl, fun _ => HV8, ?_⟩
            simp only [List.setIfInBounds_toArray, List.set_cons_zero, List.set_cons_succ]
            refine lx_rd 28 (.bool false) (by kernel_rfl) (fun _ _ d _ _ h => by cases d <;> exact h) (by kernel_rfl) HV8 rfl rfl rfl (fun w' hS => ?hCd28) ?_
            case hCd28 => first | (go_simp; rfl) | go_simp
            simp only [List.setIfInBounds_toArray, List.set_cons_zero, List.set_cons_succ]
            refine lx_rd 29 ?vCd29 (by kernel_rfl) (fun _ _ d _ _ h => by cases d <;> exact h) (by kernel_rfl) HV8 rfl rfl rfl (fun w' hS => ?hCd29) ?_
            case hCd29 => first | (go_simp; rfl) | go_simp
            simp only [List.setIfInBounds_toArray, List.set_cons_zero, List.set_cons_succ]
            refine lx_rd 30 ?vCd30 (by kernel_rfl) (fun _ _ d _ _ h => by cases d <;> exact h) (by kernel_rfl) HV8 rfl rfl rfl (fun w' hS => ?hCd30) ?_
            case hCd30 => first | (go_simp; rfl) | go_simp
            simp only [List.setIfInBounds_toArray, List.set_cons_zero, List.set_cons_succ]
            refine lx_rd 31 ?vCd31 (by kernel_rfl) (fun _ _ d _ _ h => by cases d <;> exact h) (by kernel_rfl) HV8 rfl rfl rfl (fun w' hS => ?hCd31) ?_
            case hCd31 => first | (go_simp; rfl) | go_simp
            simp only [List.setIfInBounds_toArray, List.set_cons_zero, List.set_cons_succ]
            refine lx_rd 32 ?vCd32 (by kernel_rfl) (fun _ _ d _ _ h => by cases d <;> exact h) (by kernel_rfl) HV8 rfl rfl rfl (fun w' hS => ?hCd32) ?_
            case hCd32 => first | (go_simp; rfl) | go_simp
            simp only [List.setIfInBounds_toArray, List.set_cons_zero, List.set_cons_succ]
            refine lx_rd 33 (.pointer (some ⟨bA + 2, i, none⟩)) (by kernel_rfl) (fun _ _ d _ _ h => by cases d <;> exact h) (by kernel_rfl) HV8 rfl rfl rfl (fun w' hS => ?hCd33) ?_
            case hCd33 => first | (go_simp; rfl) | go_simp
            simp only [List.setIfInBounds_toArray, List.set_cons_zero, List.set_cons_succ]
            refine lx_rd 34 (.int .i64 (maT i)) (by kernel_rfl) (fun _ _ d _ _ h => by cases d <;> exact h) (by kernel_rfl) HV8 rfl rfl rfl (fun w' hS => ?hCd34) ?_
            case hCd34 => have z0 := hS.1.aM i hi4; first | (go_simp; rfl) | go_simp
            simp only [List.setIfInBounds_toArray, List.set_cons_zero, List.set_cons_succ]
            refine lx_rd 35 (.bool false) (by kernel_rfl) (fun _ _ d _ _ h => by cases d <;> exact h) (by kernel_rfl) HV8 rfl rfl rfl (fun w' hS => ?hCd35) ?_
            case hCd35 => first | (go_simp; rfl) | go_simp
            simp only [List.setIfInBounds_toArray, List.set_cons_zero, List.set_cons_succ]
            refine lx_rd 36 (.bool false) (by kernel_rfl) (fun _ _ d _ _ h => by cases d <;> exact h) (by kernel_rfl) HV8 rfl rfl rfl (fun w' hS => ?hCd36) ?_
            case hCd36 => first | (go_simp; rfl) | go_simp
            simp only [List.setIfInBounds_toArray, List.set_cons_zero, List.set_cons_succ]
            refine lx_rd 37 (.bool false) (by kernel_rfl) (fun _ _ d _ _ h => by cases d <;> exact h) (by kernel_rfl) HV8 rfl rfl rfl (fun w' hS => ?hCd37) ?_
            case hCd37 => first | (go_simp; rfl) | go_simp
            simp only [List.setIfInBounds_toArray, List.set_cons_zero, List.set_cons_succ]
            refine lx_rd 38 (.bool false) (by kernel_rfl) (fun _ _ d _ _ h => by cases d <;> exact h) (by kernel_rfl) HV8 rfl rfl rfl (fun w' hS => ?hCd38) ?_
            case hCd38 => first | (go_simp; rfl) | go_simp
            simp only [List.setIfInBounds_toArray, List.set_cons_zero, List.set_cons_succ]
            refine lx_nil (by kernel_rfl) ?_
            go_wp2_with fail
            go_meet
            exact ⟨rfl, HV8.1, HV8.2⟩
        case rest =>
          clear HT HG hA2 hwt cA
          obtain ⟨rfl, HT, HG⟩ := hcut
          go_upto_if 120 with fail
          go_cut [20] from 55 to 186 (fun s20 wx => s20 = .int .u64 (if i < 2 then m else n) ∧ wx = wc)
          case first =>
            by_cases hi2 : i < 2
            · have hj2 : (i : Int) < 2 := by omega
              go_wp2_with fail
              go_meet
              exact ⟨by rw [if_pos hi2], rfl⟩
            · have hj2 : ¬ ((i : Int) < 2) := by omega
              go_wp2_with fail
              go_meet
              exact ⟨by rw [if_neg hi2], rfl⟩
          case rest =>
          obtain ⟨rfl, ew⟩ := hcut
          obtain rfl := ew.symm
          have mc := HT.out.aM i hi4
          go_upto_if 126 with fail
          have m1 := ma_one i hi4
          go_cut [20] from 55 to 186 (fun s20 wx => s20 = .int .u64 (kOf i n m) ∧ wx = wc)
          case first =>
            by_cases hi0 : i = 0
            · rw [decide_eq_true hi0] at m1
              have ek : kOf i n m = m + 1 := by unfold kOf; rw [if_pos hi0]
              clear hi0
              go_wp2_with fail
              go_meet
              exact ⟨by rw [ek], rfl⟩
            · rw [decide_eq_false hi0] at m1
              have ek : kOf i n m = if i < 2 then m else n := by unfold kOf; rw [if_neg hi0]
              clear hi0
              generalize (if i < 2 then m else n) = kq at *
              go_wp2_with fail
              go_meet
              exact ⟨by rw [ek], rfl⟩
          case rest =>
          obtain ⟨rfl, ew⟩ := hcut
          obtain rfl := ew.symm
          have hH := HHear.out i hi4
          have cH := fun w => Hear_any h (maT i) (kOf i n m) w
          generalize hearA h (maT i) (kOf i n m) = r at cH hH
          obtain ⟨⟨u, tl⟩, en⟩ := r
          have he : en = 0 := hH.1
          subst he
          unfold hearV hfv hfc at cH
          simp only at cH
          have hH2 : Hid ((i = 0 ∧ wnT (4 + i) s < 0) ∨ (wnT (4 + i) s < 0 ∧ tl = 0 ∧ u = h) ∨ (0 ≤ wnT (4 + i) s ∧ wnT (4 + i) s < 9 ∧ tl ≠ 0 ∧ names u = nmT.getD (wnT (4 + i) s).toNat ⟨#[]⟩)) := hH.2
          clear hH mc m1
          generalize kOf i n m = kk at *
          go_upto_region 24 with fail
          refine wp_region_lx (fun w' => Tt w bh bn bA T h w') [] 14 (by kernel_rfl) (by kernel_rfl) ?_
          have HW : Tt w bh bn bA T h wc.drew := HT.out.below ((Below.refl _ _).drew)
          have G0 : HfAt wc.drew g t := HG.out.below ((Below.refl _ _).drew) HG.out.lt
          clear HT HG
          generalize wc.drew = W at HW G0 ⊢
          refine lx_rd 0 (.agg #[.int .i64 h.o, .int .u64 h.n, .int .i64 h.i, .int .u64 h.m]) (by kernel_rfl) (fun _ _ d _ _ h => by cases d <;> exact h) (by kernel_rfl) HW rfl rfl rfl (fun w' hS => ?hD0) ?_
          case hD0 => have z0 := hS.ah.c0; have z1 := hS.ah.c1; have z2 := hS.ah.c2; have z3 := hS.ah.c3; first | (go_simp; rfl) | go_simp
          simp only [List.setIfInBounds_toArray, List.set_cons_zero, List.set_cons_succ]
          refine lx_rd 1 ?vD1 (by kernel_rfl) (fun _ _ d _ _ h => by cases d <;> exact h) (by kernel_rfl) HW rfl rfl rfl (fun w' hS => ?hD1) ?_
          case hD1 => first | (go_simp; rfl) | go_simp
          simp only [List.setIfInBounds_toArray, List.set_cons_zero, List.set_cons_succ]
          refine lx_rd 2 ?vD2 (by kernel_rfl) (fun _ _ d _ _ h => by cases d <;> exact h) (by kernel_rfl) HW rfl rfl rfl (fun w' hS => ?hD2) ?_
          case hD2 => first | (go_simp; rfl) | go_simp
          simp only [List.setIfInBounds_toArray, List.set_cons_zero, List.set_cons_succ]
          refine lx_rd 3 (.pointer (some ⟨bA + 2, i, none⟩)) (by kernel_rfl) (fun _ _ d _ _ h => by cases d <;> exact h) (by kernel_rfl) HW rfl rfl rfl (fun w' hS => ?hD3) ?_
          case hD3 => first | (go_simp; rfl) | go_simp
          simp only [List.setIfInBounds_toArray, List.set_cons_zero, List.set_cons_succ]
          refine lx_rd 4 (.int .i64 (maT i)) (by kernel_rfl) (fun _ _ d _ _ h => by cases d <;> exact h) (by kernel_rfl) HW rfl rfl rfl (fun w' hS => ?hD4) ?_
          case hD4 => have z0 := hS.aM i hi4; first | (go_simp; rfl) | go_simp
          simp only [List.setIfInBounds_toArray, List.set_cons_zero, List.set_cons_succ]
          refine lx_rd 5 ?vD5 (by kernel_rfl) (fun _ _ d _ _ h => by cases d <;> exact h) (by kernel_rfl) HW rfl rfl rfl (fun w' hS => ?hD5) ?_
          case hD5 => first | (go_simp; rfl) | go_simp
          simp only [List.setIfInBounds_toArray, List.set_cons_zero, List.set_cons_succ]
          refine lx_one 6 (by kernel_rfl) (stepT_call 11 ?cD rfl rfl rfl ?dD ?_)
          case dD => first | (go_simp; rfl) | go_simp
          refine (cH W).mono ?_
          rintro e w7 ⟨rfl, hb7⟩
          have H7 := HW.below hb7
          have G7 := G0.below hb7 G0.lt
          refine ⟨_, rfl, fun _ => H7, ?_⟩
          simp only [List.setIfInBounds_toArray, List.set_cons_zero, List.set_cons_succ]
          refine lx_rd 7 ?vDa7 (by kernel_rfl) (fun _ _ d _ _ h => by cases d <;> exact h) (by kernel_rfl) H7 rfl rfl rfl (fun w' hS => ?hDa7) ?_
          case hDa7 => first | (go_simp; rfl) | go_simp
          simp only [List.setIfInBounds_toArray, List.set_cons_zero, List.set_cons_succ]
          refine lx_rd 8 ?vDa8 (by kernel_rfl) (fun _ _ d _ _ h => by cases d <;> exact h) (by kernel_rfl) H7 rfl rfl rfl (fun w' hS => ?hDa8) ?_
          case hDa8 => first | (go_simp; rfl) | go_simp
          simp only [List.setIfInBounds_toArray, List.set_cons_zero, List.set_cons_succ]
          refine lx_rd 9 ?vDa9 (by kernel_rfl) (fun _ _ d _ _ h => by cases d <;> exact h) (by kernel_rfl) H7 rfl rfl rfl (fun w' hS => ?hDa9) ?_
          case hDa9 => first | (go_simp; rfl) | go_simp
          simp only [List.setIfInBounds_toArray, List.set_cons_zero, List.set_cons_succ]
          refine lx_rd 10 ?vDa10 (by kernel_rfl) (fun _ _ d _ _ h => by cases d <;> exact h) (by kernel_rfl) H7 rfl rfl rfl (fun w' hS => ?hDa10) ?_
          case hDa10 => first | (go_simp; rfl) | go_simp
          simp only [List.setIfInBounds_toArray, List.set_cons_zero, List.set_cons_succ]
          have R8 := H7.row hg G7 u
          have G8 := G7.set u
          refine lx_one 11 (by kernel_rfl) (stepT_store (w' := w7.setRow g (hfc u)) rfl rfl rfl ?sD (fun _ => R8) ?_)
          case sD => exact exec_store_half (.tmp 15) (.tmp 137) rfl g rfl u rfl _ G7
          clear H7 G7 HW G0
          generalize w7.setRow g (hfc u) = w8 at R8 G8 ⊢
          refine lx_one 12 (by kernel_rfl) (stepT_val (w' := w8) (.int .i64 tl) rfl rfl rfl ?xD0 (fun _ => R8) ?_)
          case xD0 => first | (go_simp; rfl) | (go_simp; done)
          simp only [List.setIfInBounds_toArray, List.set_cons_zero, List.set_cons_succ]
          refine lx_one 13 (by kernel_rfl) (stepT_val (w' := w8) (.int .i64 0) rfl rfl rfl ?xD1 (fun _ => R8) ?_)
          case xD1 => first | (go_simp; rfl) | (go_simp; done)
          simp only [List.setIfInBounds_toArray, List.set_cons_zero, List.set_cons_succ]
          refine lx_nil (by kernel_rfl) ?_
          have HT : Hid (Tt w bh bn bA T h w8) := R8
          have HG : Hid (HfAt w8 g u) := G8
          clear R8 G8 cH
          have cO := table_any (4 + i) (by omega) w8
          have oc := HT.out.aI i hi4
          have hix := fun w => ix_any (tbT.getD (4 + i) []) s (tb_len (4 + i) (by omega)) hs9 w
          have ewt : (tbT.getD (4 + i) []).getD s 0 = wnT (4 + i) s := rfl
          rw [ewt] at hix
          generalize evT.getD (4 + i) ⟨#[]⟩ = ev2 at cO oc
          generalize (ic .i64 (tbT.getD (4 + i) [])).toArray = tr2 at cO hix
          go_upto_region 26 with (first
            | (go_at_call 9; refine cO.mono ?_; clear cO; rintro e w9 ⟨rfl, hb9⟩)
            | fail)
          clear hix oc ewt
          replace HG : Hid (HfAt w9 g u) := HG.out.below hb9 HG.out.lt
          replace HT : Hid (Tt w bh bn bA T h w9) := HT.out.below hb9
          generalize hwt2 : wnT (4 + i) s = wt2 at *
          have mc := HT.out.aM i hi4
          have m1 := ma_one i hi4
          by_cases hco : i = 0 ∧ wt2 < 0
          · as_aux_lemma =>
            obtain ⟨hi0, hl⟩ := hco
            rw [decide_eq_true hi0] at m1
            clear hH2 hwt2 hi0
            go_wp2_with fail
            go_roundg (gk - 1)
            case measure => omega
            case rel => exact ⟨i + 1, by go_num, by omega, HT⟩
          · go_cut [155] from 55 to 186 (fun s155 wx => s155 = .bool false ∧ wx = w9)
            case first =>
              by_cases hi0 : i = 0
              · have hl : ¬ wt2 < 0 := fun e => hco ⟨hi0, e⟩
                rw [decide_eq_true hi0] at m1
                clear hH2 hwt2 hco hi0
                go_wp2_with fail
                go_meet
                exact ⟨rfl, rfl⟩
              · rw [decide_eq_false hi0] at m1
                clear hH2 hwt2 hco hi0
                go_wp2_with fail
                go_meet
                exact ⟨rfl, rfl⟩
            case rest =>
            obtain ⟨rfl, ew⟩ := hcut
            obtain rfl := ew.symm
            clear mc m1
            go_upto_region 27 with fail
            rcases hH2.out with e0 | ⟨hlt, htl, hu⟩ | ⟨hge, hl9, htl, hnm⟩
            · exact absurd e0 hco
            · as_aux_lemma =>
              subst htl
              obtain rfl := hu.symm
              have hl1 : ¬ (0 ≤ wt2) := by omega
              have cS := fun w => same_yes h w
              unfold hfv hfc at cS
              clear hH2 hwt2 hco
              refine wp_region_lx (fun w' => (Tt w bh bn bA T h w' ∧ HfAt w' g h)) [] 31 (by kernel_rfl) (by kernel_rfl) ?_
              have HW : (Tt w bh bn bA T h w9.drew ∧ HfAt w9.drew g h) := ⟨HT.out.below ((Below.refl _ _).drew), HG.out.below ((Below.refl _ _).drew) HG.out.lt⟩
              clear HT HG
              generalize w9.drew = W at HW ⊢
              refine lx_rd 0 ?vE0 (by kernel_rfl) (fun _ _ d _ _ h => by cases d <;> exact h) (by kernel_rfl) HW rfl rfl rfl (fun w' hS => ?hE0) ?_
              case hE0 => first | (go_simp; rfl) | go_simp
              simp only [List.setIfInBounds_toArray, List.set_cons_zero, List.set_cons_succ]
              refine lx_rd 1 (.bool false) (by kernel_rfl) (fun _ _ d _ _ h => by cases d <;> exact h) (by kernel_rfl) HW rfl rfl rfl (fun w' hS => ?hE1) ?_
              case hE1 => first | (go_simp; rfl) | go_simp
              simp only [List.setIfInBounds_toArray, List.set_cons_zero, List.set_cons_succ]
              refine lx_rd 2 ?vE2 (by kernel_rfl) (fun _ _ d _ _ h => by cases d <;> exact h) (by kernel_rfl) HW rfl rfl rfl (fun w' hS => ?hE2) ?_
              case hE2 => first | (go_simp; rfl) | go_simp
              simp only [List.setIfInBounds_toArray, List.set_cons_zero, List.set_cons_succ]
              refine lx_rd 3 ?vE3 (by kernel_rfl) (fun _ _ d _ _ h => by cases d <;> exact h) (by kernel_rfl) HW rfl rfl rfl (fun w' hS => ?hE3) ?_
              case hE3 => first | (go_simp; rfl) | go_simp
              simp only [List.setIfInBounds_toArray, List.set_cons_zero, List.set_cons_succ]
              refine lx_rd 4 (.bool true) (by kernel_rfl) (fun _ _ d _ _ h => by cases d <;> exact h) (by kernel_rfl) HW rfl rfl rfl (fun w' hS => ?hE4) ?_
              case hE4 => first | (go_simp; rfl) | go_simp
              simp only [List.setIfInBounds_toArray, List.set_cons_zero, List.set_cons_succ]
              refine lx_rd 5 ?vE5 (by kernel_rfl) (fun _ _ d _ _ h => by cases d <;> exact h) (by kernel_rfl) HW rfl rfl rfl (fun w' hS => ?hE5) ?_
              case hE5 => first | (go_simp; rfl) | go_simp
              simp only [List.setIfInBounds_toArray, List.set_cons_zero, List.set_cons_succ]
              refine lx_rd 6 (.bool true) (by kernel_rfl) (fun _ _ d _ _ h => by cases d <;> exact h) (by kernel_rfl) HW rfl rfl rfl (fun w' hS => ?hE6) ?_
              case hE6 => first | (go_simp; rfl) | go_simp
              simp only [List.setIfInBounds_toArray, List.set_cons_zero, List.set_cons_succ]
              refine lx_rd 7 (.bool false) (by kernel_rfl) (fun _ _ d _ _ h => by cases d <;> exact h) (by kernel_rfl) HW rfl rfl rfl (fun w' hS => ?hE7) ?_
              case hE7 => first | (go_simp; rfl) | go_simp
              simp only [List.setIfInBounds_toArray, List.set_cons_zero, List.set_cons_succ]
              refine lx_rd 8 (.bool false) (by kernel_rfl) (fun _ _ d _ _ h => by cases d <;> exact h) (by kernel_rfl) HW rfl rfl rfl (fun w' hS => ?hE8) ?_
              case hE8 => first | (go_simp; rfl) | go_simp
              simp only [List.setIfInBounds_toArray, List.set_cons_zero, List.set_cons_succ]
              refine lx_rd 9 ?vE9 (by kernel_rfl) (fun _ _ d _ _ h => by cases d <;> exact h) (by kernel_rfl) HW rfl rfl rfl (fun w' hS => ?hE9) ?_
              case hE9 => first | (go_simp; rfl) | go_simp
              simp only [List.setIfInBounds_toArray, List.set_cons_zero, List.set_cons_succ]
              refine lx_rd 10 ?vE10 (by kernel_rfl) (fun _ _ d _ _ h => by cases d <;> exact h) (by kernel_rfl) HW rfl rfl rfl (fun w' hS => ?hE10) ?_
              case hE10 => first | (go_simp; rfl) | go_simp
              simp only [List.setIfInBounds_toArray, List.set_cons_zero, List.set_cons_succ]
              refine lx_rd 11 (.bool true) (by kernel_rfl) (fun _ _ d _ _ h => by cases d <;> exact h) (by kernel_rfl) HW rfl rfl rfl (fun w' hS => ?hE11) ?_
              case hE11 => first | (go_simp; rfl) | go_simp
              simp only [List.setIfInBounds_toArray, List.set_cons_zero, List.set_cons_succ]
              refine lx_rd 12 ?vE12 (by kernel_rfl) (fun _ _ d _ _ h => by cases d <;> exact h) (by kernel_rfl) HW rfl rfl rfl (fun w' hS => ?hE12) ?_
              case hE12 => first | (go_simp; rfl) | go_simp
              simp only [List.setIfInBounds_toArray, List.set_cons_zero, List.set_cons_succ]
              refine lx_rd 13 (.agg #[.int .i64 h.o, .int .u64 h.n, .int .i64 h.i, .int .u64 h.m]) (by kernel_rfl) (fun _ _ d _ _ h => by cases d <;> exact h) (by kernel_rfl) HW rfl rfl rfl (fun w' hS => ?hE13) ?_
              case hE13 => have zz := hS.2; have z0 := hS.1.ah.c0; have z1 := hS.1.ah.c1; have z2 := hS.1.ah.c2; have z3 := hS.1.ah.c3; have y0 := zz.c0; have y1 := zz.c1; have y2 := zz.c2; have y3 := zz.c3; first | (go_simp; rfl) | go_simp
              simp only [List.setIfInBounds_toArray, List.set_cons_zero, List.set_cons_succ]
              refine lx_rd 14 (.agg #[.int .i64 h.o, .int .u64 h.n, .int .i64 h.i, .int .u64 h.m]) (by kernel_rfl) (fun _ _ d _ _ h => by cases d <;> exact h) (by kernel_rfl) HW rfl rfl rfl (fun w' hS => ?hE14) ?_
              case hE14 => have z0 := hS.1.ah.c0; have z1 := hS.1.ah.c1; have z2 := hS.1.ah.c2; have z3 := hS.1.ah.c3; first | (go_simp; rfl) | go_simp
              simp only [List.setIfInBounds_toArray, List.set_cons_zero, List.set_cons_succ]
              refine lx_one 15 (by kernel_rfl) (stepT_call 10 ?cE rfl rfl rfl ?dE ?_)
              case dE => first | (go_simp; rfl) | go_simp
              refine (cS W).mono ?_
              rintro e w8 ⟨rfl, hb8⟩
              have HV8 : (Tt w bh bn bA T h w8 ∧ HfAt w8 g h) := ⟨HW.1.below hb8, HW.2.below hb8 HW.2.lt⟩
              refine ⟨_, rfl, fun _ => HV8, ?_⟩
              simp only [List.setIfInBounds_toArray, List.set_cons_zero, List.set_cons_succ]
              refine lx_rd 16 (.bool false) (by kernel_rfl) (fun _ _ d _ _ h => by cases d <;> exact h) (by kernel_rfl) HV8 rfl rfl rfl (fun w' hS => ?hEb16) ?_
              case hEb16 => first | (go_simp; rfl) | go_simp
              simp only [List.setIfInBounds_toArray, List.set_cons_zero, List.set_cons_succ]
              refine lx_rd 17 (.bool false) (by kernel_rfl) (fun _ _ d _ _ h => by cases d <;> exact h) (by kernel_rfl) HV8 rfl rfl rfl (fun w' hS => ?hEb17) ?_
              case hEb17 => first | (go_simp; rfl) | go_simp
              simp only [List.setIfInBounds_toArray, List.set_cons_zero, List.set_cons_succ]
              refine lx_rd 18 (.bool false) (by kernel_rfl) (fun _ _ d _ _ h => by cases d <;> exact h) (by kernel_rfl) HV8 rfl rfl rfl (fun w' hS => ?hEb18) ?_
              case hEb18 => first | (go_simp; rfl) | go_simp
              simp only [List.setIfInBounds_toArray, List.set_cons_zero, List.set_cons_succ]
              refine lx_rd 19 ?vEb19 (by kernel_rfl) (fun _ _ d _ _ h => by cases d <;> exact h) (by kernel_rfl) HV8 rfl rfl rfl (fun w' hS => ?hEb19) ?_
              case hEb19 => first | (go_simp; rfl) | go_simp
              simp only [List.setIfInBounds_toArray, List.set_cons_zero, List.set_cons_succ]
              refine lx_rd 20 ?vEb20 (by kernel_rfl) (fun _ _ d _ _ h => by cases d <;> exact h) (by kernel_rfl) HV8 rfl rfl rfl (fun w' hS => ?hEb20) ?_
              case hEb20 => first | (go_simp; rfl) | go_simp
              simp only [List.setIfInBounds_toArray, List.set_cons_zero, List.set_cons_succ]
              refine lx_rd 21 (.bool false) (by kernel_rfl) (fun _ _ d _ _ h => by cases d <;> exact h) (by kernel_rfl) HV8 rfl rfl rfl (fun w' hS => ?hEb21) ?_
              case hEb21 => first | (go_simp; rfl) | go_simp
              simp only [List.setIfInBounds_toArray, List.set_cons_zero, List.set_cons_succ]
              refine lx_rd 22 ?vEb22 (by kernel_rfl) (fun _ _ d _ _ h => by cases d <;> exact h) (by kernel_rfl) HV8 rfl rfl rfl (fun w' hS => ?hEb22) ?_
              case hEb22 => first | (go_simp; rfl) | go_simp
              simp only [List.setIfInBounds_toArray, List.set_cons_zero, List.set_cons_succ]
              refine lx_skip 23 (by kernel_rfl) (fun _ _ d _ _ h => by cases d <;> exact h) (by kernel_rfl) HV8 rfl rfl rfl ?_
              simp only [List.setIfInBounds_toArray, List.set_cons_zero, List.set_cons_succ]
              refine lx_skip 24 (by kernel_rfl) (fun _ _ d _ _ h => by cases d <;> exact h) (by kernel_rfl) HV8 rfl rfl rfl ?_
              simp only [List.setIfInBounds_toArray, List.set_cons_zero, List.set_cons_succ]
              refine lx_skip 25 (by kernel_rfl) (fun _ _ d _ _ h => by cases d <;> exact h) (by kernel_rfl) HV8 rfl rfl rfl ?_
              simp only [List.setIfInBounds_toArray, List.set_cons_zero, List.set_cons_succ]
              refine lx_skip 26 (by kernel_rfl) (fun _ _ d _ _ h => by cases d <;> exact h) (by kernel_rfl) HV8 rfl rfl rfl ?_
              simp only [List.setIfInBounds_toArray, List.set_cons_zero, List.set_cons_succ]
              refine lx_skip 27 (by kernel_rfl) (fun _ _ d _ _ h => by cases d <;> exact h) (by kernel_rfl) HV8 rfl rfl rfl ?_
              simp only [List.setIfInBounds_toArray, List.set_cons_zero, List.set_cons_succ]
              refine lx_skip 28 (by kernel_rfl) (fun _ _ d _ _ h => by cases d <;> exact h) (by kernel_rfl) HV8 rfl rfl rfl ?_
              simp only [List.setIfInBounds_toArray, List.set_cons_zero, List.set_cons_succ]
              refine lx_rd 29 (.bool false) (by kernel_rfl) (fun _ _ d _ _ h => by cases d <;> exact h) (by kernel_rfl) HV8 rfl rfl rfl (fun w' hS => ?hEd29) ?_
              case hEd29 => first | (go_simp; rfl) | go_simp
              simp only [List.setIfInBounds_toArray, List.set_cons_zero, List.set_cons_succ]
              refine lx_rd 30 (.bool false) (by kernel_rfl) (fun _ _ d _ _ h => by cases d <;> exact h) (by kernel_rfl) HV8 rfl rfl rfl (fun w' hS => ?hEd30) ?_
              case hEd30 => first | (go_simp; rfl) | go_simp
              simp only [List.setIfInBounds_toArray, List.set_cons_zero, List.set_cons_succ]
              refine lx_nil (by kernel_rfl) ?_
              have HT : Hid (Tt w bh bn bA T h w8) := HV8.1
              go_wp2_with fail
              go_roundg (gk - 1)
              case measure => omega
              case rel => exact ⟨i + 1, by go_num, by omega, HT⟩
            · as_aux_lemma =>
              obtain ⟨q, rfl⟩ : ∃ q : Nat, wt2 = (q : Int) := ⟨wt2.toNat, by omega⟩
              have hq9 : q < 9 := by omega
              have hl1 : ¬ ((q : Int) < 0) := by omega
              have cT := fun wz hz => fState_any u wz hz
              rw [hnm] at cT
              unfold hfv hfc at cT
              simp only [Int.toNat_natCast] at cT
              clear hH2 hwt2 hco hnm
              refine wp_region_lx (fun w' => (Tt w bh bn bA T h w' ∧ HfAt w' g u)) [] 31 (by kernel_rfl) (by kernel_rfl) ?_
              have HW : (Tt w bh bn bA T h w9.drew ∧ HfAt w9.drew g u) := ⟨HT.out.below ((Below.refl _ _).drew), HG.out.below ((Below.refl _ _).drew) HG.out.lt⟩
              clear HT HG
              generalize w9.drew = W at HW ⊢
              refine lx_rd 0 ?vF0 (by kernel_rfl) (fun _ _ d _ _ h => by cases d <;> exact h) (by kernel_rfl) HW rfl rfl rfl (fun w' hS => ?hF0) ?_
              case hF0 => first | (go_simp; rfl) | go_simp
              simp only [List.setIfInBounds_toArray, List.set_cons_zero, List.set_cons_succ]
              refine lx_rd 1 (.bool false) (by kernel_rfl) (fun _ _ d _ _ h => by cases d <;> exact h) (by kernel_rfl) HW rfl rfl rfl (fun w' hS => ?hF1) ?_
              case hF1 => first | (go_simp; rfl) | go_simp
              simp only [List.setIfInBounds_toArray, List.set_cons_zero, List.set_cons_succ]
              refine lx_rd 2 ?vF2 (by kernel_rfl) (fun _ _ d _ _ h => by cases d <;> exact h) (by kernel_rfl) HW rfl rfl rfl (fun w' hS => ?hF2) ?_
              case hF2 => first | (go_simp; rfl) | go_simp
              simp only [List.setIfInBounds_toArray, List.set_cons_zero, List.set_cons_succ]
              refine lx_rd 3 ?vF3 (by kernel_rfl) (fun _ _ d _ _ h => by cases d <;> exact h) (by kernel_rfl) HW rfl rfl rfl (fun w' hS => ?hF3) ?_
              case hF3 => first | (go_simp; rfl) | go_simp
              simp only [List.setIfInBounds_toArray, List.set_cons_zero, List.set_cons_succ]
              refine lx_rd 4 (.bool false) (by kernel_rfl) (fun _ _ d _ _ h => by cases d <;> exact h) (by kernel_rfl) HW rfl rfl rfl (fun w' hS => ?hF4) ?_
              case hF4 => first | (go_simp; rfl) | go_simp
              simp only [List.setIfInBounds_toArray, List.set_cons_zero, List.set_cons_succ]
              refine lx_rd 5 ?vF5 (by kernel_rfl) (fun _ _ d _ _ h => by cases d <;> exact h) (by kernel_rfl) HW rfl rfl rfl (fun w' hS => ?hF5) ?_
              case hF5 => first | (go_simp; rfl) | go_simp
              simp only [List.setIfInBounds_toArray, List.set_cons_zero, List.set_cons_succ]
              refine lx_rd 6 (.bool false) (by kernel_rfl) (fun _ _ d _ _ h => by cases d <;> exact h) (by kernel_rfl) HW rfl rfl rfl (fun w' hS => ?hF6) ?_
              case hF6 => first | (go_simp; rfl) | go_simp
              simp only [List.setIfInBounds_toArray, List.set_cons_zero, List.set_cons_succ]
              refine lx_rd 7 (.bool false) (by kernel_rfl) (fun _ _ d _ _ h => by cases d <;> exact h) (by kernel_rfl) HW rfl rfl rfl (fun w' hS => ?hF7) ?_
              case hF7 => first | (go_simp; rfl) | go_simp
              simp only [List.setIfInBounds_toArray, List.set_cons_zero, List.set_cons_succ]
              refine lx_rd 8 (.bool false) (by kernel_rfl) (fun _ _ d _ _ h => by cases d <;> exact h) (by kernel_rfl) HW rfl rfl rfl (fun w' hS => ?hF8) ?_
              case hF8 => first | (go_simp; rfl) | go_simp
              simp only [List.setIfInBounds_toArray, List.set_cons_zero, List.set_cons_succ]
              refine lx_rd 9 ?vF9 (by kernel_rfl) (fun _ _ d _ _ h => by cases d <;> exact h) (by kernel_rfl) HW rfl rfl rfl (fun w' hS => ?hF9) ?_
              case hF9 => first | (go_simp; rfl) | go_simp
              simp only [List.setIfInBounds_toArray, List.set_cons_zero, List.set_cons_succ]
              refine lx_rd 10 ?vF10 (by kernel_rfl) (fun _ _ d _ _ h => by cases d <;> exact h) (by kernel_rfl) HW rfl rfl rfl (fun w' hS => ?hF10) ?_
              case hF10 => first | (go_simp; rfl) | go_simp
              simp only [List.setIfInBounds_toArray, List.set_cons_zero, List.set_cons_succ]
              refine lx_rd 11 (.bool false) (by kernel_rfl) (fun _ _ d _ _ h => by cases d <;> exact h) (by kernel_rfl) HW rfl rfl rfl (fun w' hS => ?hF11) ?_
              case hF11 => first | (go_simp; rfl) | go_simp
              simp only [List.setIfInBounds_toArray, List.set_cons_zero, List.set_cons_succ]
              refine lx_rd 12 ?vF12 (by kernel_rfl) (fun _ _ d _ _ h => by cases d <;> exact h) (by kernel_rfl) HW rfl rfl rfl (fun w' hS => ?hF12) ?_
              case hF12 => first | (go_simp; rfl) | go_simp
              simp only [List.setIfInBounds_toArray, List.set_cons_zero, List.set_cons_succ]
              refine lx_skip 13 (by kernel_rfl) (fun _ _ d _ _ h => by cases d <;> exact h) (by kernel_rfl) HW rfl rfl rfl ?_
              simp only [List.setIfInBounds_toArray, List.set_cons_zero, List.set_cons_succ]
              refine lx_skip 14 (by kernel_rfl) (fun _ _ d _ _ h => by cases d <;> exact h) (by kernel_rfl) HW rfl rfl rfl ?_
              simp only [List.setIfInBounds_toArray, List.set_cons_zero, List.set_cons_succ]
              refine lx_skip 15 (by kernel_rfl) (fun _ _ d _ _ h => by cases d <;> exact h) (by kernel_rfl) HW rfl rfl rfl ?_
              simp only [List.setIfInBounds_toArray, List.set_cons_zero, List.set_cons_succ]
              refine lx_skip 16 (by kernel_rfl) (fun _ _ d _ _ h => by cases d <;> exact h) (by kernel_rfl) HW rfl rfl rfl ?_
              simp only [List.setIfInBounds_toArray, List.set_cons_zero, List.set_cons_succ]
              refine lx_rd 17 (.bool false) (by kernel_rfl) (fun _ _ d _ _ h => by cases d <;> exact h) (by kernel_rfl) HW rfl rfl rfl (fun w' hS => ?hFb17) ?_
              case hFb17 => first | (go_simp; rfl) | go_simp
              simp only [List.setIfInBounds_toArray, List.set_cons_zero, List.set_cons_succ]
              refine lx_rd 18 (.bool false) (by kernel_rfl) (fun _ _ d _ _ h => by cases d <;> exact h) (by kernel_rfl) HW rfl rfl rfl (fun w' hS => ?hFb18) ?_
              case hFb18 => first | (go_simp; rfl) | go_simp
              simp only [List.setIfInBounds_toArray, List.set_cons_zero, List.set_cons_succ]
              refine lx_rd 19 ?vFb19 (by kernel_rfl) (fun _ _ d _ _ h => by cases d <;> exact h) (by kernel_rfl) HW rfl rfl rfl (fun w' hS => ?hFb19) ?_
              case hFb19 => first | (go_simp; rfl) | go_simp
              simp only [List.setIfInBounds_toArray, List.set_cons_zero, List.set_cons_succ]
              refine lx_rd 20 ?vFb20 (by kernel_rfl) (fun _ _ d _ _ h => by cases d <;> exact h) (by kernel_rfl) HW rfl rfl rfl (fun w' hS => ?hFb20) ?_
              case hFb20 => first | (go_simp; rfl) | go_simp
              simp only [List.setIfInBounds_toArray, List.set_cons_zero, List.set_cons_succ]
              refine lx_rd 21 (.bool true) (by kernel_rfl) (fun _ _ d _ _ h => by cases d <;> exact h) (by kernel_rfl) HW rfl rfl rfl (fun w' hS => ?hFb21) ?_
              case hFb21 => first | (go_simp; rfl) | go_simp
              simp only [List.setIfInBounds_toArray, List.set_cons_zero, List.set_cons_succ]
              refine lx_rd 22 ?vFb22 (by kernel_rfl) (fun _ _ d _ _ h => by cases d <;> exact h) (by kernel_rfl) HW rfl rfl rfl (fun w' hS => ?hFb22) ?_
              case hFb22 => first | (go_simp; rfl) | go_simp
              simp only [List.setIfInBounds_toArray, List.set_cons_zero, List.set_cons_succ]
              refine lx_rd 23 (.agg #[.int .i64 u.o, .int .u64 u.n, .int .i64 u.i, .int .u64 u.m]) (by kernel_rfl) (fun _ _ d _ _ h => by cases d <;> exact h) (by kernel_rfl) HW rfl rfl rfl (fun w' hS => ?hFb23) ?_
              case hFb23 => have z0 := hS.2.c0; have z1 := hS.2.c1; have z2 := hS.2.c2; have z3 := hS.2.c3; first | (go_simp; rfl) | go_simp
              simp only [List.setIfInBounds_toArray, List.set_cons_zero, List.set_cons_succ]
              refine lx_rd 25 ?vFb25 (by kernel_rfl) (fun _ _ d _ _ h => by cases d <;> exact h) (by kernel_rfl) HW rfl rfl rfl (fun w' hS => ?hFb25) ?_
              case hFb25 => first | (go_simp; rfl) | go_simp
              simp only [List.setIfInBounds_toArray, List.set_cons_zero, List.set_cons_succ]
              refine lx_rd 26 (.pointer (some ⟨bn, q, none⟩)) (by kernel_rfl) (fun _ _ d _ _ h => by cases d <;> exact h) (by kernel_rfl) HW rfl rfl rfl (fun w' hS => ?hFb26) ?_
              case hFb26 => first | (go_simp; rfl) | go_simp
              simp only [List.setIfInBounds_toArray, List.set_cons_zero, List.set_cons_succ]
              refine lx_rd 27 (.string (nmT.getD q ⟨#[]⟩)) (by kernel_rfl) (fun _ _ d _ _ h => by cases d <;> exact h) (by kernel_rfl) HW rfl rfl rfl (fun w' hS => ?hFb27) ?_
              case hFb27 => have z0 := hS.1.an q hq9; first | (go_simp; rfl) | go_simp
              simp only [List.setIfInBounds_toArray, List.set_cons_zero, List.set_cons_succ]
              refine lx_one 24 (by kernel_rfl) (stepT_call 7 ?cF rfl rfl rfl ?dF ?_)
              case dF => first | (go_simp; rfl) | go_simp
              refine (cT W (HTs.out.below HW.1.bl)).mono ?_
              rintro e w8 ⟨rfl, hb8⟩
              have HV8 : (Tt w bh bn bA T h w8 ∧ HfAt w8 g u) := ⟨HW.1.below hb8, HW.2.below hb8 HW.2.lt⟩
              refine ⟨_, rfl, fun _ => HV8, ?_⟩
              simp only [List.setIfInBounds_toArray, List.set_cons_zero, List.set_cons_succ]
              refine lx_rd 28 (.bool false) (by kernel_rfl) (fun _ _ d _ _ h => by cases d <;> exact h) (by kernel_rfl) HV8 rfl rfl rfl (fun w' hS => ?hFd28) ?_
              case hFd28 => first | (go_simp; rfl) | go_simp
              simp only [List.setIfInBounds_toArray, List.set_cons_zero, List.set_cons_succ]
              refine lx_rd 29 (.bool false) (by kernel_rfl) (fun _ _ d _ _ h => by cases d <;> exact h) (by kernel_rfl) HV8 rfl rfl rfl (fun w' hS => ?hFd29) ?_
              case hFd29 => first | (go_simp; rfl) | go_simp
              simp only [List.setIfInBounds_toArray, List.set_cons_zero, List.set_cons_succ]
              refine lx_rd 30 (.bool false) (by kernel_rfl) (fun _ _ d _ _ h => by cases d <;> exact h) (by kernel_rfl) HV8 rfl rfl rfl (fun w' hS => ?hFd30) ?_
              case hFd30 => first | (go_simp; rfl) | go_simp
              simp only [List.setIfInBounds_toArray, List.set_cons_zero, List.set_cons_succ]
              refine lx_nil (by kernel_rfl) ?_
              have HT : Hid (Tt w bh bn bA T h w8) := HV8.1
              go_wp2_with fail
              go_roundg (gk - 1)
              case measure => omega
              case rel => exact ⟨i + 1, by go_num, by omega, HT⟩
    · have hiz : ¬ ((i : Int) < 4) := by omega
      have cW := wakes_any wr (HTu.out.below HT.out.bl)
      go_wp2_with (first
        | (go_at_call 12; refine cW.mono ?_; clear cW; rintro e w5 ⟨rfl, hb5⟩; have b5 := HT.out.bl.trans (hb5.mono HT.out.bl.size)))
      simp [bodyPost, results, Tryd.results3, go_sem]
      exact b5
end Go.Proofs.YtgijofcnknehdaaDoor
