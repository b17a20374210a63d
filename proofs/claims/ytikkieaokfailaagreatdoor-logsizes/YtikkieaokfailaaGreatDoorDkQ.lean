/- The disk's inner functions: rising, put, drop, find. -/
import Derived.Test.YtikkieaokfailaaGreatDoorDkN
import Derived.Test.YtikkieaokfailaaGreatDoorLate
import Derived.BigQuiet
namespace Go.Proofs.YtikkieaokfailaaGreatDoor
open Go.RowKit Go.Shelf Go.Sort Go.Maps Go.Joins

theorem sortsZ (m : Nat) : AnyZ.SortsIn Tryz.prog Tryz.sortedZ_ren Fence.wide m :=
  ⟨fun blk off cap ss W hH hblk hsz => callsIn_wide.2 (AnyM.slices_Sort_string Tryz.sortZ blk off cap ss W hH hblk hsz),
   fun p cap W => callsIn_wide.2 (AnyM.slices_Sort_string_none Tryz.sortZ p cap W)⟩
theorem keys_any (mb : Option Nat) (W : World) : CallsIn Fence.wide 5 Tryz.prog 106 #[.map mb] W fun e w' => e = .returned (.func (.func 145) #[] #[.pointer (some ⟨W.heap.size, 0, none⟩)]) ∧ w' = W.alloc (.cells #[.map mb] 99) :=
  AnyZ.keys_in Tryz.keysZ Fence.wide 5 trivial rfl mb W
set_option maxHeartbeats 1000000 in
theorem sorted_any {H : Type} (b nn : Nat) (D0 : DataW H) (R : Value → Option (DataW H × List MemPlace)) (w : World) (hown : w.ownsMap Tryz.prog 9 R b nn D0) (hmax : Maps.size D0 ≤ maxLen) (hbytes : Maps.size D0 * 16 ≤ 140737488355328) :
    CallsIn Fence.wide 5 Tryz.prog 105 #[.func (.func 145) #[] #[.pointer (some ⟨w.heap.size, 0, none⟩)]] (w.alloc (.cells #[.map (some b)] 99)) fun e w' => ∃ (v : Value) (ss : List (List UInt8)), e = .returned v ∧ ss.Perm (strKeys D0) ∧
      w'.ownsRow (w.alloc (.cells #[.map (some b)] 99)).heap.size 9 1 v ss.length ((ss.mergeSort (fun x y => decide (x ≤ y))).map encStr) ∧ (v = .slice none 0 0 ↔ ss = []) ∧ Below (w.alloc (.cells #[.map (some b)] 99)).heap.size (w.alloc (.cells #[.map (some b)] 99)) w' := by
  have hbl := hown.lt
  have hseq : SeqGives Fence.wide 2 Tryz.prog 145 #[.pointer (some ⟨w.heap.size, 0, none⟩)] encStr (fun ss => ss.Perm (strKeys D0)) (Maps.size D0) (w.alloc (.cells #[.map (some b)] 99)) :=
    AnyZ.keys_gives (ρ := Tryz.keysZ_ren) { Tryz.keysZ with } Fence.wide _ trivial rfl (by omega) w.heap.size b nn D0 _ (by simp) (by simp) (by
      obtain ⟨es, clock, hb, Ft, hs, hD⟩ := hown
      exact ⟨es, clock, (Below.heap_alloc _ _ b hbl).trans hb, Ft, hs, hD⟩)
  exact AnyZ.sorted_in Tryz.sortedZ Fence.wide 5 trivial trivial trivial trivial rfl (by omega) (sortsZ _) (enters_of Tryz.func144 (by kernel_rfl) rfl) 145 #[.pointer (some ⟨w.heap.size, 0, none⟩)] trivial (enters_of Tryz.func145 (by kernel_rfl) rfl) _ _ hmax hbytes _ hseq

/-- Names as values. -/
def nv (ns : List Nm) : List Value := ns.map Value.string
theorem rise_nodup {l : Fls} (h : Rise l) : (l.map Prod.fst).Nodup := by
  induction l with
  | nil => exact List.nodup_nil
  | cons q r ih =>
    obtain ⟨n, g⟩ := q
    rw [List.map_cons]
    refine List.nodup_cons.2 ⟨fun hm => ?_, ih h.2⟩
    obtain ⟨p, hp, e⟩ := List.mem_map.1 hm
    have := h.1 p hp
    rw [e] at this
    exact ltN_irrefl _ this
theorem rise_sorted {l : Fls} (h : Rise l) : ((l.map Prod.fst).map (fun s : Nm => s.data.toList)).Pairwise (fun a b => leB a b = true) := by
  induction l with
  | nil => exact List.Pairwise.nil
  | cons q r ih =>
    obtain ⟨n, g⟩ := q
    rw [List.map_cons, List.map_cons]
    refine List.pairwise_cons.2 ⟨fun x hx => ?_, ih h.2⟩
    rw [List.map_map] at hx
    obtain ⟨p, hp, e⟩ := List.mem_map.1 hx
    have := h.1 p hp
    rw [← e]
    simp only [leB, decide_eq_true_eq]
    exact List.le_of_lt this

/-- What the disk lists are its names, rising, in new memory. -/
theorem rising_any (d bm n : Nat) (r : Raw) (m : Nm → Option FV) (l : Fls) (hl : Rise l) (hm : ∀ s, (m s).isSome = (look l s).isSome) (hn : l.length ≤ 1000000) (w : World) (hD : DR w d bm n r m) :
    Calls Tryz.prog 69 #[.pointer (some ⟨d, 0, none⟩)] w fun e w' => ∃ v, e = .returned v ∧ w'.ownsRow w.heap.size 9 1 v l.length (nv (l.map Prod.fst)) ∧ Below w.heap.size w w' := by
  obtain ⟨D, hown, hperm, hsz⟩ := hD.map.keys (l.map Prod.fst) (rise_nodup hl) (fun s => by rw [hm s, look_isSome])
  rw [List.length_map] at hsz
  have q1 := hD.c1
  have cK : Calls Tryz.prog 106 #[.map (some bm)] w fun e w' => e = .returned (.func (.func 145) #[] #[.pointer (some ⟨w.heap.size, 0, none⟩)]) ∧ w' = w.alloc (.cells #[.map (some bm)] 99) := callsIn_wide.1 (keys_any (some bm) w)
  have cS := callsIn_wide.1 (sorted_any bm n D Rf w hown (by unfold maxLen; omega) (by omega))
  clear hown
  go_enter Tryz.func69, Tryz.ntmps69
  go_wp2_with (first
    | (go_at_call 106; refine cK.mono ?_; rintro e w1 ⟨rfl, rfl⟩)
    | (go_at_call 105; refine cS.mono ?_; rintro e w2 ⟨v, ss, rfl, hS, hrow, hnil, hb⟩))
  go_ret
  have hp2 : ss.Perm ((l.map Prod.fst).map (fun s : Nm => s.data.toList)) := hS.trans hperm.symm
  have e1 : ss.mergeSort (fun x y => decide (x ≤ y)) = (l.map Prod.fst).map (fun s : Nm => s.data.toList) := (mergeSort_of_perm hp2).trans (List.mergeSort_of_pairwise (rise_sorted hl))
  have e2 : ss.length = l.length := by rw [hp2.length_eq, List.length_map, List.length_map]
  rw [e1, e2] at hrow
  refine ⟨v, rfl, own_weak (B := (w.alloc (.cells #[.map (some bm)] 99)).heap.size) ?_ (by simp), ((Below.refl _ w).alloc (Nat.le_refl _) _).trans (hb.mono (by simp))⟩
  have e3 : nv (l.map Prod.fst) = ((l.map Prod.fst).map (fun s : Nm => s.data.toList)).map encStr := by
    simp [nv, Function.comp_def, encStr]
  rw [e3]
  exact hrow

theorem len_slice (a : Option Addr) (n c : Nat) (t ty : TypeId) (w : World) (h : Tryz.prog.underlying t = some (.slice 5)) : (Builtin.len_ #[t] ty #[.slice a n c]).run Tryz.prog w = .ok (.int .i64 n) w := by
  simp [Builtin.len_, run_underlying h, goInt]

set_option maxRecDepth 100000 in
set_option maxHeartbeats 2000000 in
theorem put_any (d bm n : Nat) (r : Raw) (m : Nm → Option FV) (s : Nm) (hs : s.size ≤ 281474976710656) (hn : n < 1000000) (a : Option Nat) (ln cp : Nat) (sf : Int) (w : World) (hD : DR w d bm n r m)
    (hu0 : 0 ≤ r.used) (hu1 : r.used ≤ 1000000000) (hl : ln ≤ 1000000000) (ho : ((m s).getD fv0).2.1 ≤ 1000000000) :
    Calls Tryz.prog 52 #[.pointer (some ⟨d, 0, none⟩), .string s, .agg #[.slice (a.map fun g => ⟨g, 0, none⟩) ln cp, .int .i64 sf]] w fun e w' =>
      e = .returned (.tuple #[]) ∧ DR w' d bm (n + 1) { r with used := r.used + ((ln : Int) - (((m s).getD fv0).2.1 : Int)) } (mputF m s (some (a, ln, cp, sf))) ∧ Keep (fun k => k = d ∨ k = bm) w w' := by
  have hmax : s.size ≤ maxLen := by unfold maxLen; omega
  obtain ⟨old, HO⟩ : ∃ old, Hid ((m s).getD fv0 = old) := ⟨_, rfl⟩
  rw [HO.out] at ho ⊢
  obtain ⟨g0, l0, c0, s0⟩ := old
  dsimp only at ho ⊢
  obtain ⟨A, hA⟩ : ∃ A : Option Addr, (a.map fun g => (⟨g, 0, none⟩ : Addr)) = A := ⟨_, rfl⟩
  obtain ⟨B, hB⟩ : ∃ B : Option Addr, (g0.map fun g => (⟨g, 0, none⟩ : Addr)) = B := ⟨_, rfl⟩
  have hfv : fv (a, ln, cp, sf) = .agg #[.slice A ln cp, .int .i64 sf] := by unfold fv slv; rw [hA]
  have hfo : fv (g0, l0, c0, s0) = .agg #[.slice B l0 c0, .int .i64 s0] := by unfold fv slv; rw [hB]
  rw [hA]
  have hw1 : IntKind.i64.wrap ((ln : Int) - (l0 : Int)) = (ln : Int) - (l0 : Int) := by rw [IntKind.wrap_i64]; omega
  have hw2 : IntKind.i64.wrap (r.used + ((ln : Int) - (l0 : Int))) = r.used + ((ln : Int) - (l0 : Int)) := by rw [IntKind.wrap_i64]; omega
  have hlen1 := fun w => len_slice A ln cp 29 3 w Tryz.underlying29
  have hlen2 := fun w => len_slice B l0 c0 29 3 w Tryz.underlying29
  clear hA hB
  go_enter Tryz.func52, Tryz.ntmps52
  go_upto_region 1 with fail
  have hsz : (w.alloc (Obj.cells #[.slice A ln cp, .int .i64 sf] 106)).heap.size = w.heap.size + 1 := by simp
  have hD1 := hD.alloc (Obj.cells #[.slice A ln cp, .int .i64 sf] 106)
  have hk1 : Keep (fun k => k = d ∨ k = bm) w (w.alloc (Obj.cells #[.slice A ln cp, .int .i64 sf] 106)) := (Keep.refl _ _).alloc _
  have hbox := alloc_at w (Obj.cells #[.slice A ln cp, .int .i64 sf] 106)
  have hdl := hD.lt
  have hbl := hD.map.lt
  generalize hW1 : w.alloc (Obj.cells #[.slice A ln cp, .int .i64 sf] 106) = w1 at *
  obtain ⟨b, hb⟩ : ∃ b, w.heap.size = b := ⟨_, rfl⟩
  rw [hb] at hsz hbox hdl hbl ⊢
  clear hW1
  refine wp_region_lx (fun w' => w' = w1.drew) [19] 20 (by kernel_rfl) (by kernel_rfl) ?_
  have hD2 : DR w1.drew d bm n r m := hD1.keep (S := fun _ => False) (Keep.refl _ _).drew (fun h => h) (fun h => h)
  have hk2 : Keep (fun k => k = d ∨ k = bm) w w1.drew := hk1.drew
  have hbox2 : w1.drew.heap[b]? = some (Obj.cells #[.slice A ln cp, .int .i64 sf] 106) := hbox
  have hsz2 : w1.drew.heap.size = b + 1 := hsz
  clear hD1 hk1 hbox hsz
  generalize w1.drew = W at *
  have q1 := hD2.c1
  have q2 := hD2.c2
  have z2 := hD2.fz 2
  have b0 : W.cell? ⟨b, 0, none⟩ = some (.slice A ln cp) := by simp [World.cell?, hbox2]
  have b1 : W.cell? ⟨b, 1, none⟩ = some (.int .i64 sf) := by simp [World.cell?, hbox2]
  have hlk : (Instr.lookup 99 (.map (some bm)) (.string s) false).run Tryz.prog W = .ok (.agg #[.slice B l0 c0, .int .i64 s0]) W := by
    have := hD2.map.look1 s hmax
    rw [HO.out, hfo] at this
    exact this
  have hfd : (Instr.field 106 (.agg #[.slice B l0 c0, .int .i64 s0]) 0).run Tryz.prog W = .ok (.slice B l0 c0) W := by simp [Instr.field, go_sem, asAgg]
  have HS0 : W = W := rfl
  refine lx_rd 0 ?vA0 (by kernel_rfl) (fun _ _ d _ _ h => by cases d <;> exact h) (by kernel_rfl) HS0 rfl rfl rfl (fun w' hS => ?hA0) ?_
  case hA0 => first | (go_simp; rfl) | go_simp
  simp only [List.setIfInBounds_toArray, List.set_cons_zero, List.set_cons_succ]
  refine lx_rd 1 ?vA1 (by kernel_rfl) (fun _ _ d _ _ h => by cases d <;> exact h) (by kernel_rfl) HS0 rfl rfl rfl (fun w' hS => ?hA1) ?_
  case hA1 => first | (go_simp; rfl) | go_simp
  simp only [List.setIfInBounds_toArray, List.set_cons_zero, List.set_cons_succ]
  refine lx_rd 2 ?vA2 (by kernel_rfl) (fun _ _ d _ _ h => by cases d <;> exact h) (by kernel_rfl) HS0 rfl rfl rfl (fun w' hS => ?hA2) ?_
  case hA2 => first | (go_simp; rfl) | go_simp
  simp only [List.setIfInBounds_toArray, List.set_cons_zero, List.set_cons_succ]
  refine lx_rd 3 (.int .i64 r.used) (by kernel_rfl) (fun _ _ d _ _ h => by cases d <;> exact h) (by kernel_rfl) HS0 rfl rfl rfl (fun w' hS => ?hA3) ?_
  case hA3 => subst hS; first | (go_simp; rfl) | go_simp
  simp only [List.setIfInBounds_toArray, List.set_cons_zero, List.set_cons_succ]
  refine lx_rd 4 ?vA4 (by kernel_rfl) (fun _ _ d _ _ h => by cases d <;> exact h) (by kernel_rfl) HS0 rfl rfl rfl (fun w' hS => ?hA4) ?_
  case hA4 => first | (go_simp; rfl) | go_simp
  simp only [List.setIfInBounds_toArray, List.set_cons_zero, List.set_cons_succ]
  refine lx_rd 5 (.slice A ln cp) (by kernel_rfl) (fun _ _ d _ _ h => by cases d <;> exact h) (by kernel_rfl) HS0 rfl rfl rfl (fun w' hS => ?hA5) ?_
  case hA5 => subst hS; first | (go_simp; rfl) | go_simp
  simp only [List.setIfInBounds_toArray, List.set_cons_zero, List.set_cons_succ]
  refine lx_rd 6 (.int .i64 ln) (by kernel_rfl) (fun _ _ d _ _ h => by cases d <;> exact h) (by kernel_rfl) HS0 rfl rfl rfl (fun w' hS => ?hA6) ?_
  case hA6 => subst hS; first | (go_simp; rfl) | go_simp
  simp only [List.setIfInBounds_toArray, List.set_cons_zero, List.set_cons_succ]
  refine lx_rd 7 ?vA7 (by kernel_rfl) (fun _ _ d _ _ h => by cases d <;> exact h) (by kernel_rfl) HS0 rfl rfl rfl (fun w' hS => ?hA7) ?_
  case hA7 => first | (go_simp; rfl) | go_simp
  simp only [List.setIfInBounds_toArray, List.set_cons_zero, List.set_cons_succ]
  refine lx_rd 8 ?vA8 (by kernel_rfl) (fun _ _ d _ _ h => by cases d <;> exact h) (by kernel_rfl) HS0 rfl rfl rfl (fun w' hS => ?hA8) ?_
  case hA8 => first | (go_simp; rfl) | go_simp
  simp only [List.setIfInBounds_toArray, List.set_cons_zero, List.set_cons_succ]
  refine lx_rd 9 ?vA9 (by kernel_rfl) (fun _ _ d _ _ h => by cases d <;> exact h) (by kernel_rfl) HS0 rfl rfl rfl (fun w' hS => ?hA9) ?_
  case hA9 => first | (go_simp; rfl) | go_simp
  simp only [List.setIfInBounds_toArray, List.set_cons_zero, List.set_cons_succ]
  refine lx_rd 10 (.map (some bm)) (by kernel_rfl) (fun _ _ d _ _ h => by cases d <;> exact h) (by kernel_rfl) HS0 rfl rfl rfl (fun w' hS => ?hA10) ?_
  case hA10 => subst hS; first | (go_simp; rfl) | go_simp
  simp only [List.setIfInBounds_toArray, List.set_cons_zero, List.set_cons_succ]
  refine lx_rd 11 ?vA11 (by kernel_rfl) (fun _ _ d _ _ h => by cases d <;> exact h) (by kernel_rfl) HS0 rfl rfl rfl (fun w' hS => ?hA11) ?_
  case hA11 => first | (go_simp; rfl) | go_simp
  simp only [List.setIfInBounds_toArray, List.set_cons_zero, List.set_cons_succ]
  refine lx_rd 12 (.agg #[.slice B l0 c0, .int .i64 s0]) (by kernel_rfl) (fun _ _ d _ _ h => by cases d <;> exact h) (by kernel_rfl) HS0 rfl rfl rfl (fun w' hS => ?hA12) ?_
  case hA12 => subst hS; first | (go_simp; rfl) | go_simp
  simp only [List.setIfInBounds_toArray, List.set_cons_zero, List.set_cons_succ]
  refine lx_rd 13 (.slice B l0 c0) (by kernel_rfl) (fun _ _ d _ _ h => by cases d <;> exact h) (by kernel_rfl) HS0 rfl rfl rfl (fun w' hS => ?hA13) ?_
  case hA13 => subst hS; first | (go_simp; rfl) | go_simp
  simp only [List.setIfInBounds_toArray, List.set_cons_zero, List.set_cons_succ]
  refine lx_rd 14 (.int .i64 l0) (by kernel_rfl) (fun _ _ d _ _ h => by cases d <;> exact h) (by kernel_rfl) HS0 rfl rfl rfl (fun w' hS => ?hA14) ?_
  case hA14 => subst hS; first | (go_simp; rfl) | go_simp
  simp only [List.setIfInBounds_toArray, List.set_cons_zero, List.set_cons_succ]
  refine lx_rd 15 (.int .i64 ((ln : Int) - l0)) (by kernel_rfl) (fun _ _ d _ _ h => by cases d <;> exact h) (by kernel_rfl) HS0 rfl rfl rfl (fun w' hS => ?hA15) ?_
  case hA15 => subst hS; first | (go_simp; rfl) | go_simp
  simp only [List.setIfInBounds_toArray, List.set_cons_zero, List.set_cons_succ]
  refine lx_rd 16 (.int .i64 (r.used + ((ln : Int) - l0))) (by kernel_rfl) (fun _ _ d _ _ h => by cases d <;> exact h) (by kernel_rfl) HS0 rfl rfl rfl (fun w' hS => ?hA16) ?_
  case hA16 => subst hS; first | (go_simp; rfl) | go_simp
  simp only [List.setIfInBounds_toArray, List.set_cons_zero, List.set_cons_succ]
  refine lx_one 17 (by kernel_rfl) (stepT_val (w' := W) (.pointer (some ⟨d, 0, none⟩)) rfl rfl rfl ?r17 (fun _ => rfl) ?_)
  case r17 => first | (go_simp; rfl) | go_simp
  simp only [List.setIfInBounds_toArray, List.set_cons_zero, List.set_cons_succ]
  refine lx_one 18 (by kernel_rfl) (stepT_val (w' := W) (.pointer (some ⟨d, 2, none⟩)) rfl rfl rfl ?r18 (fun _ => rfl) ?_)
  case r18 => first | (go_simp; rfl) | go_simp
  simp only [List.setIfInBounds_toArray, List.set_cons_zero, List.set_cons_succ]
  refine lx_one 19 (by kernel_rfl) (stepT_store (w' := W.setCell ⟨d, 2, none⟩ (.int .i64 (r.used + ((ln : Int) - l0)))) rfl rfl rfl ?r19 (fun h => by cases h) ?_)
  case r19 => first | (go_simp; rfl) | go_simp
  refine lx_nil (by kernel_rfl) ?_
  have hD3 := hD2.set 2 (.int .i64 (r.used + ((ln : Int) - l0))) { r with used := r.used + ((ln : Int) - l0) } rfl
  have hk3 := hk2.trans ((hD2.setK 2 (.int .i64 (r.used + ((ln : Int) - l0)))).mono (fun _ e => Or.inl e))
  have hbox3 : (W.setCell ⟨d, 2, none⟩ (.int .i64 (r.used + ((ln : Int) - l0)))).heap[b]? = some (Obj.cells #[.slice A ln cp, .int .i64 sf] 106) := ((hD2.setK 2 (.int .i64 (r.used + ((ln : Int) - l0)))).block b (by omega) (by omega)).trans hbox2
  clear hD2 hk2 hbox2 q1 q2 z2 b0 b1 hlk hfd hsz2 HS0 hw1 hw2 hlen1 hlen2
  generalize W.setCell ⟨d, 2, none⟩ (.int .i64 (r.used + ((ln : Int) - l0))) = W3 at *
  go_upto_region 2 with fail
  refine wp_region_lx (fun w' => DR w' d bm n { r with used := r.used + ((ln : Int) - l0) } m ∧ w'.heap[b]? = some (Obj.cells #[.slice A ln cp, .int .i64 sf] 106)) [7] 8 (by kernel_rfl) (by kernel_rfl) ?_
  have HS : DR W3.drew d bm n { r with used := r.used + ((ln : Int) - l0) } m ∧ W3.drew.heap[b]? = some (Obj.cells #[.slice A ln cp, .int .i64 sf] 106) := ⟨hD3.keep (S := fun _ => False) (Keep.refl _ _).drew (fun h => h) (fun h => h), hbox3⟩
  have hk4 : Keep (fun k => k = d ∨ k = bm) w W3.drew := hk3.drew
  clear hD3 hk3 hbox3
  generalize W3.drew = W4 at *
  refine lx_rd 0 ?vB0 (by kernel_rfl) (fun _ _ d _ _ h => by cases d <;> exact h) (by kernel_rfl) HS rfl rfl rfl (fun w' hS => ?hB0) ?_
  case hB0 => first | (go_simp; rfl) | go_simp
  simp only [List.setIfInBounds_toArray, List.set_cons_zero, List.set_cons_succ]
  refine lx_rd 1 ?vB1 (by kernel_rfl) (fun _ _ d _ _ h => by cases d <;> exact h) (by kernel_rfl) HS rfl rfl rfl (fun w' hS => ?hB1) ?_
  case hB1 => first | (go_simp; rfl) | go_simp
  simp only [List.setIfInBounds_toArray, List.set_cons_zero, List.set_cons_succ]
  refine lx_rd 2 ?vB2 (by kernel_rfl) (fun _ _ d _ _ h => by cases d <;> exact h) (by kernel_rfl) HS rfl rfl rfl (fun w' hS => ?hB2) ?_
  case hB2 => first | (go_simp; rfl) | go_simp
  simp only [List.setIfInBounds_toArray, List.set_cons_zero, List.set_cons_succ]
  refine lx_rd 3 (.map (some bm)) (by kernel_rfl) (fun _ _ d _ _ h => by cases d <;> exact h) (by kernel_rfl) HS rfl rfl rfl (fun w' hS => ?hB3) ?_
  case hB3 => have q := hS.1.c1; first | (go_simp; rfl) | go_simp
  simp only [List.setIfInBounds_toArray, List.set_cons_zero, List.set_cons_succ]
  refine lx_rd 4 ?vB4 (by kernel_rfl) (fun _ _ d _ _ h => by cases d <;> exact h) (by kernel_rfl) HS rfl rfl rfl (fun w' hS => ?hB4) ?_
  case hB4 => first | (go_simp; rfl) | go_simp
  simp only [List.setIfInBounds_toArray, List.set_cons_zero, List.set_cons_succ]
  refine lx_rd 6 (.agg #[.slice A ln cp, .int .i64 sf]) (by kernel_rfl) (fun _ _ d _ _ h => by cases d <;> exact h) (by kernel_rfl) HS rfl rfl rfl (fun w' hS => ?hB6) ?_
  case hB6 => have q1 : w'.cell? ⟨b, 0, none⟩ = some (.slice A ln cp) := (by simp [World.cell?, hS.2]); have q2 : w'.cell? ⟨b, 1, none⟩ = some (.int .i64 sf) := (by simp [World.cell?, hS.2]); first | (go_simp; rfl) | go_simp
  simp only [List.setIfInBounds_toArray, List.set_cons_zero, List.set_cons_succ]
  refine lx_one 5 (by kernel_rfl) (stepT_call 87 ?aR5 rfl rfl rfl ?rR5 ?_)
  case rR5 => first | (go_simp; rfl) | go_simp
  refine (clone_any s _ hs).mono ?_
  rintro e w5 ⟨rfl, hb5⟩
  have HS5 : DR w5 d bm n { r with used := r.used + ((ln : Int) - l0) } m ∧ w5.heap[b]? = some (Obj.cells #[.slice A ln cp, .int .i64 sf] 106) := ⟨HS.1.below hb5, (hb5.block b (Array.getElem?_eq_some_iff.1 HS.2).1).trans HS.2⟩
  have hk5 : Keep (fun k => k = d ∨ k = bm) w w5 := hk4.trans (Keep.ofBelow hb5)
  refine ⟨_, rfl, fun _ => HS5, ?_⟩
  simp only [List.setIfInBounds_toArray, List.set_cons_zero, List.set_cons_succ]
  obtain ⟨w6, hrun, hM6, hk6⟩ := HS5.1.map.store hn s hmax (a, ln, cp, sf)
  refine lx_one 7 (by kernel_rfl) (stepT_store (w' := w6) rfl rfl rfl ?rR7 (fun h => by cases h) ?_)
  case rR7 =>
    have hr : (Instr.mapUpdate 99 (.map (some bm)) (.string s) (.agg #[.slice A ln cp, .int .i64 sf])).run Tryz.prog w5 = .ok () w6 := by rw [← hfv]; exact hrun
    go_simp
  refine lx_nil (by kernel_rfl) ?_
  go_wp2
  go_end0
  exact ⟨rfl, ⟨(hk6.block d HS5.1.lt (fun e => HS5.1.ne e)).trans HS5.1.blk, hM6⟩, hk5.trans (hk6.mono (fun _ e => Or.inr e))⟩

set_option maxRecDepth 100000 in
set_option maxHeartbeats 2000000 in
theorem drop_any (d bm n : Nat) (r : Raw) (m : Nm → Option FV) (s : Nm) (hs : s.size ≤ maxLen) (w : World) (hD : DR w d bm n r m)
    (hu0 : 0 ≤ r.used) (hu1 : r.used ≤ 1000000000) (ho : ((m s).getD fv0).2.1 ≤ 1000000000) :
    Calls Tryz.prog 147 #[.pointer (some ⟨d, 0, none⟩), .string s] w fun e w' =>
      e = .returned (.tuple #[]) ∧ DR w' d bm n { r with used := r.used - (((m s).getD fv0).2.1 : Int) } (mputF m s none) ∧ Keep (fun k => k = d ∨ k = bm) w w' := by
  obtain ⟨old, HO⟩ : ∃ old, Hid ((m s).getD fv0 = old) := ⟨_, rfl⟩
  rw [HO.out] at ho ⊢
  obtain ⟨g0, l0, c0, s0⟩ := old
  dsimp only at ho ⊢
  obtain ⟨B, hB⟩ : ∃ B : Option Addr, (g0.map fun g => (⟨g, 0, none⟩ : Addr)) = B := ⟨_, rfl⟩
  have hfo : fv (g0, l0, c0, s0) = .agg #[.slice B l0 c0, .int .i64 s0] := by unfold fv slv; rw [hB]
  have hw2 : IntKind.i64.wrap (r.used - (l0 : Int)) = r.used - (l0 : Int) := by rw [IntKind.wrap_i64]; omega
  have hlen2 := fun w => len_slice B l0 c0 29 3 w Tryz.underlying29
  clear hB
  go_enter Tryz.func147, Tryz.ntmps147
  go_upto_region 0 with fail
  refine wp_region_lx (fun w' => w' = w.drew) [15] 16 (by kernel_rfl) (by kernel_rfl) ?_
  have hD2 : DR w.drew d bm n r m := hD.keep (S := fun _ => False) (Keep.refl _ _).drew (fun h => h) (fun h => h)
  have hk2 : Keep (fun k => k = d ∨ k = bm) w w.drew := (Keep.refl _ _).drew
  clear hD
  generalize w.drew = W at *
  have q1 := hD2.c1
  have q2 := hD2.c2
  have z2 := hD2.fz 2
  have hlk : (Instr.lookup 99 (.map (some bm)) (.string s) false).run Tryz.prog W = .ok (.agg #[.slice B l0 c0, .int .i64 s0]) W := by
    have := hD2.map.look1 s hs
    rw [HO.out, hfo] at this
    exact this
  have hfd : (Instr.field 106 (.agg #[.slice B l0 c0, .int .i64 s0]) 0).run Tryz.prog W = .ok (.slice B l0 c0) W := by simp [Instr.field, go_sem, asAgg]
  have HS0 : W = W := rfl
  refine lx_rd 0 ?vA0 (by kernel_rfl) (fun _ _ d _ _ h => by cases d <;> exact h) (by kernel_rfl) HS0 rfl rfl rfl (fun w' hS => ?hA0) ?_
  case hA0 => first | (go_simp; rfl) | go_simp
  simp only [List.setIfInBounds_toArray, List.set_cons_zero, List.set_cons_succ]
  refine lx_rd 1 ?vA1 (by kernel_rfl) (fun _ _ d _ _ h => by cases d <;> exact h) (by kernel_rfl) HS0 rfl rfl rfl (fun w' hS => ?hA1) ?_
  case hA1 => first | (go_simp; rfl) | go_simp
  simp only [List.setIfInBounds_toArray, List.set_cons_zero, List.set_cons_succ]
  refine lx_rd 2 ?vA2 (by kernel_rfl) (fun _ _ d _ _ h => by cases d <;> exact h) (by kernel_rfl) HS0 rfl rfl rfl (fun w' hS => ?hA2) ?_
  case hA2 => first | (go_simp; rfl) | go_simp
  simp only [List.setIfInBounds_toArray, List.set_cons_zero, List.set_cons_succ]
  refine lx_rd 3 (.int .i64 r.used) (by kernel_rfl) (fun _ _ d _ _ h => by cases d <;> exact h) (by kernel_rfl) HS0 rfl rfl rfl (fun w' hS => ?hA3) ?_
  case hA3 => subst hS; first | (go_simp; rfl) | go_simp
  simp only [List.setIfInBounds_toArray, List.set_cons_zero, List.set_cons_succ]
  refine lx_rd 4 ?vA4 (by kernel_rfl) (fun _ _ d _ _ h => by cases d <;> exact h) (by kernel_rfl) HS0 rfl rfl rfl (fun w' hS => ?hA4) ?_
  case hA4 => first | (go_simp; rfl) | go_simp
  simp only [List.setIfInBounds_toArray, List.set_cons_zero, List.set_cons_succ]
  refine lx_rd 5 ?vA5 (by kernel_rfl) (fun _ _ d _ _ h => by cases d <;> exact h) (by kernel_rfl) HS0 rfl rfl rfl (fun w' hS => ?hA5) ?_
  case hA5 => first | (go_simp; rfl) | go_simp
  simp only [List.setIfInBounds_toArray, List.set_cons_zero, List.set_cons_succ]
  refine lx_rd 6 ?vA6 (by kernel_rfl) (fun _ _ d _ _ h => by cases d <;> exact h) (by kernel_rfl) HS0 rfl rfl rfl (fun w' hS => ?hA6) ?_
  case hA6 => first | (go_simp; rfl) | go_simp
  simp only [List.setIfInBounds_toArray, List.set_cons_zero, List.set_cons_succ]
  refine lx_rd 7 (.map (some bm)) (by kernel_rfl) (fun _ _ d _ _ h => by cases d <;> exact h) (by kernel_rfl) HS0 rfl rfl rfl (fun w' hS => ?hA7) ?_
  case hA7 => subst hS; first | (go_simp; rfl) | go_simp
  simp only [List.setIfInBounds_toArray, List.set_cons_zero, List.set_cons_succ]
  refine lx_rd 8 ?vA8 (by kernel_rfl) (fun _ _ d _ _ h => by cases d <;> exact h) (by kernel_rfl) HS0 rfl rfl rfl (fun w' hS => ?hA8) ?_
  case hA8 => first | (go_simp; rfl) | go_simp
  simp only [List.setIfInBounds_toArray, List.set_cons_zero, List.set_cons_succ]
  refine lx_rd 9 (.agg #[.slice B l0 c0, .int .i64 s0]) (by kernel_rfl) (fun _ _ d _ _ h => by cases d <;> exact h) (by kernel_rfl) HS0 rfl rfl rfl (fun w' hS => ?hA9) ?_
  case hA9 => subst hS; first | (go_simp; rfl) | go_simp
  simp only [List.setIfInBounds_toArray, List.set_cons_zero, List.set_cons_succ]
  refine lx_rd 10 (.slice B l0 c0) (by kernel_rfl) (fun _ _ d _ _ h => by cases d <;> exact h) (by kernel_rfl) HS0 rfl rfl rfl (fun w' hS => ?hA10) ?_
  case hA10 => subst hS; first | (go_simp; rfl) | go_simp
  simp only [List.setIfInBounds_toArray, List.set_cons_zero, List.set_cons_succ]
  refine lx_rd 11 (.int .i64 l0) (by kernel_rfl) (fun _ _ d _ _ h => by cases d <;> exact h) (by kernel_rfl) HS0 rfl rfl rfl (fun w' hS => ?hA11) ?_
  case hA11 => subst hS; first | (go_simp; rfl) | go_simp
  simp only [List.setIfInBounds_toArray, List.set_cons_zero, List.set_cons_succ]
  refine lx_rd 12 (.int .i64 (r.used - l0)) (by kernel_rfl) (fun _ _ d _ _ h => by cases d <;> exact h) (by kernel_rfl) HS0 rfl rfl rfl (fun w' hS => ?hA12) ?_
  case hA12 => subst hS; first | (go_simp; rfl) | go_simp
  simp only [List.setIfInBounds_toArray, List.set_cons_zero, List.set_cons_succ]
  refine lx_one 13 (by kernel_rfl) (stepT_val (w' := W) (.pointer (some ⟨d, 0, none⟩)) rfl rfl rfl ?r17 (fun _ => rfl) ?_)
  case r17 => first | (go_simp; rfl) | go_simp
  simp only [List.setIfInBounds_toArray, List.set_cons_zero, List.set_cons_succ]
  refine lx_one 14 (by kernel_rfl) (stepT_val (w' := W) (.pointer (some ⟨d, 2, none⟩)) rfl rfl rfl ?r18 (fun _ => rfl) ?_)
  case r18 => first | (go_simp; rfl) | go_simp
  simp only [List.setIfInBounds_toArray, List.set_cons_zero, List.set_cons_succ]
  refine lx_one 15 (by kernel_rfl) (stepT_store (w' := W.setCell ⟨d, 2, none⟩ (.int .i64 (r.used - l0))) rfl rfl rfl ?r19 (fun h => by cases h) ?_)
  case r19 => first | (go_simp; rfl) | go_simp
  refine lx_nil (by kernel_rfl) ?_
  have hD3 := hD2.set 2 (.int .i64 (r.used - l0)) { r with used := r.used - l0 } rfl
  have hk3 := hk2.trans ((hD2.setK 2 (.int .i64 (r.used - l0))).mono (fun _ e => Or.inl e))
  clear hD2 hk2 q1 q2 z2 hlk hfd HS0 hw2 hlen2
  generalize W.setCell ⟨d, 2, none⟩ (.int .i64 (r.used - l0)) = W3 at *
  have q1 := hD3.c1
  go_wp2_with (first
    | (at_delete; refine wp_dropF rfl _ _ rfl bm n m rfl hD3.map s hs rfl ?_; intro w4 hM4 hk4))
  go_end0
  exact ⟨rfl, ⟨(hk4.block d hD3.lt (fun e => hD3.ne e)).trans hD3.blk, hM4⟩, hk3.trans (hk4.mono (fun _ e => Or.inr e))⟩

/-- find: the file, where there is one. -/
theorem find_ok (d bm n : Nat) (r : Raw) (m : Nm → Option FV) (s : Nm) (hs : isNm s = true) (a : Option Nat) (ln cp : Nat) (sf : Int) (hm : m s = some (a, ln, cp, sf)) (w : World) (hD : DR w d bm n r m) :
    Calls Tryz.prog 89 #[.pointer (some ⟨d, 0, none⟩), .string s] w fun e w' => e = .returned (.agg #[.slice (a.map fun g => ⟨g, 0, none⟩) ln cp, .int .i64 sf]) ∧ Below w.heap.size w w' := by
  have hmax : s.size ≤ maxLen := by have := isNm_size hs; unfold maxLen; omega
  have hfv : fv ((m s).getD fv0) = .agg #[.slice (a.map fun g => ⟨g, 0, none⟩) ln cp, .int .i64 sf] := by rw [hm]; rfl
  have hsm : (m s).isSome = true := by rw [hm]; rfl
  obtain ⟨A, hA⟩ : ∃ A : Option Addr, (a.map fun g => (⟨g, 0, none⟩ : Addr)) = A := ⟨_, rfl⟩
  rw [hA] at hfv ⊢
  have hN := fun w => isName_any s w
  rw [hs] at hN
  have hb0 : Below w.heap.size w (w.alloc (.cells #[.slice none 0 0, .int .i64 0] 106)) := (Below.refl _ _).alloc (Nat.le_refl _) _
  clear hA hm
  go_enter Tryz.func89, Tryz.ntmps89
  go_upto_region 2 with (first
    | (go_at_call 51; refine (hN _).mono ?_; rintro e w1 ⟨rfl, hb1⟩)
    | (go_at_call 50; refine (ask_ok _ _).mono ?_; rintro e w2 ⟨rfl, rfl⟩))
  have hb2 : Below w.heap.size w w2 := hb0.trans (hb1.mono (by simp))
  have hD2 := hD.below hb2
  have q1 := hD2.c1
  have hres := (hb1.block w.heap.size (by simp)).trans (alloc_at w _)
  have hsz := hb2.size
  have hlt : w.heap.size < w2.heap.size := (Array.getElem?_eq_some_iff.1 hres).1
  clear hb0 hb1 hN
  go_upto_region 4 with (first
    | (at_lookup; refine wp_look2 rfl _ _ rfl bm n m rfl hD2.map s hmax rfl _ _ hfv true hsm ?_)
    | (go_at_call 50; refine (ask_ok _ _).mono ?_; rintro e w3 ⟨rfl, rfl⟩))
  obtain ⟨b, hb⟩ : ∃ b, w.heap.size = b := ⟨_, rfl⟩
  have l0 : (w2.alloc (.cells #[.slice A ln cp, .int .i64 sf] 106)).cell? ⟨w2.heap.size, 0, none⟩ = some (.slice A ln cp) := World.cell?_alloc_at _ _ _ 0 rfl
  have l1 : (w2.alloc (.cells #[.slice A ln cp, .int .i64 sf] 106)).cell? ⟨w2.heap.size, 1, none⟩ = some (.int .i64 sf) := World.cell?_alloc_at _ _ _ 1 rfl
  have hb3 : Below w.heap.size w (w2.alloc (.cells #[.slice A ln cp, .int .i64 sf] 106)) := hb2.alloc hsz _
  have rb : (w2.alloc (.cells #[.slice A ln cp, .int .i64 sf] 106)).heap[w.heap.size]? = some (.cells #[.slice none 0 0, .int .i64 0] 106 (0, 0)) := (Below.heap_alloc _ _ _ hlt).trans hres
  clear hres hsz hlt q1 hD2 hb2
  generalize w2.alloc (.cells #[.slice A ln cp, .int .i64 sf] 106) = W at *
  have rb1 := block_setCell (i := 0) rb (.slice A ln cp)
  have c0 := cell_of_block rb 0
  have z0 := unfrozen_of_block rb 0
  have c1 := cell_of_block rb1 1
  have z1 := unfrozen_of_block rb1 1
  have rb2 := block_setCell (i := 1) rb1 (.int .i64 sf)
  have d0 := cell_of_block rb2 0
  have d1 := cell_of_block rb2 1
  simp at c0 c1 d0 d1
  rw [hb] at rb rb1 c0 z0 c1 z1 rb2 d0 d1 ⊢
  go_wp2
  refine bodyPost_ret (v := .agg #[.slice A ln cp, .int .i64 sf]) (by simp [results, Tryz.results89, go_sem, d0, d1]) rfl ⟨rfl, ?_⟩
  subst hb
  exact (hb3.setCell (p := ⟨w.heap.size, 0, none⟩) (Nat.le_refl _) _).setCell (p := ⟨w.heap.size, 1, none⟩) (Nat.le_refl _) _

/-- find: no such file. -/
theorem find_none (d bm n : Nat) (r : Raw) (m : Nm → Option FV) (s : Nm) (hs : isNm s = true) (hm : m s = none) (w : World) (hD : DR w d bm n r m) :
    Calls Tryz.prog 89 #[.pointer (some ⟨d, 0, none⟩), .string s] w fun e w' => e = .panicked (gaveUp 7) ∧ Below w.heap.size w w' := by
  have hmax : s.size ≤ maxLen := by have := isNm_size hs; unfold maxLen; omega
  have hfv : fv ((m s).getD fv0) = .agg #[.slice none 0 0, .int .i64 0] := by rw [hm]; rfl
  have hsm : (m s).isSome = false := by rw [hm]; rfl
  have hN := fun w => isName_any s w
  rw [hs] at hN
  have hb0 : Below w.heap.size w (w.alloc (.cells #[.slice none 0 0, .int .i64 0] 106)) := (Below.refl _ _).alloc (Nat.le_refl _) _
  clear hm
  go_enter Tryz.func89, Tryz.ntmps89
  go_upto_region 2 with (first
    | (go_at_call 51; refine (hN _).mono ?_; rintro e w1 ⟨rfl, hb1⟩)
    | (go_at_call 50; refine (ask_ok _ _).mono ?_; rintro e w2 ⟨rfl, rfl⟩))
  have hb2 : Below w.heap.size w w2 := hb0.trans (hb1.mono (by simp))
  have hD2 := hD.below hb2
  have q1 := hD2.c1
  have hsz := hb2.size
  clear hb0 hb1 hN
  go_wp2_with (first
    | (at_lookup; refine wp_look2 rfl _ _ rfl bm n m rfl hD2.map s hmax rfl _ _ hfv false hsm ?_)
    | (go_at_call 50; refine (ask_no 7 _).mono ?_; rintro e w3 ⟨rfl, rfl⟩))
  exact ⟨rfl, rfl, hb2.alloc hsz _⟩
/-- find: no name. -/
theorem find_name (d : Nat) (s : Nm) (hs : isNm s = false) (w : World) :
    Calls Tryz.prog 89 #[.pointer (some ⟨d, 0, none⟩), .string s] w fun e w' => e = .panicked (gaveUp 4) ∧ Below w.heap.size w w' := by
  have hN := fun w => isName_any s w
  rw [hs] at hN
  have hb0 : Below w.heap.size w (w.alloc (.cells #[.slice none 0 0, .int .i64 0] 106)) := (Below.refl _ _).alloc (Nat.le_refl _) _
  go_enter Tryz.func89, Tryz.ntmps89
  go_wp2_with (first
    | (go_at_call 51; refine (hN _).mono ?_; rintro e w1 ⟨rfl, hb1⟩)
    | (go_at_call 50; refine (ask_no 4 _).mono ?_; rintro e w2 ⟨rfl, rfl⟩))
  exact ⟨rfl, rfl, hb0.trans (hb1.mono (by simp))⟩

end Go.Proofs.YtikkieaokfailaaGreatDoor
