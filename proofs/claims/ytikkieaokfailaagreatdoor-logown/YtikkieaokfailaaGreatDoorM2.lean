/- Texts of one seat, one behind the other: DkQ, DkS, DkT, DkU, DkC, DkV. -/
import Derived.Test.YtikkieaokfailaaGreatDoorM1
import Derived.BigQuiet
namespace Go.Proofs.YtikkieaokfailaaGreatDoor
open Go.RowKit Go.Shelf Go.Sort Go.Maps Go.Joins
theorem sortsZ (m : Nat) : AnyZ.SortsIn Tryz.prog Tryz.sortedZ_ren Fence.wide m :=
  ⟨fun blk off cap ss W hH hblk hsz => callsIn_wide.2 (AnyM.slices_Sort_string Tryz.sortZ blk off cap ss W hH hblk hsz),
   fun p cap W => callsIn_wide.2 (AnyM.slices_Sort_string_none Tryz.sortZ p cap W)⟩
theorem keys_any (mb : Option Nat) (W : World) : CallsIn Fence.wide 5 Tryz.prog 106 #[.map mb] W fun e w' => e = .returned (.func (.func 145) #[] #[.pointer (some ⟨W.heap.size, 0, none⟩)]) ∧ w' = W.alloc (.cells #[.map mb] 99) :=
  AnyZ.keys_in Tryz.keysZ Fence.wide 5 trivial rfl mb W
set_option maxHeartbeats 1000000 in
theorem sorted_any {H : Type} (b nn : Nat) (D0 : DataW H) (R : Value → Option (DataW H × List MemPlace)) (w : World) (hown : w.ownsMap Tryz.prog 9 R b nn D0) (hmax : Maps.size D0 ≤ maxLen) (hbytes : Maps.size D0 * 16 ≤ 140737488355328) :
    CallsIn Fence.wide 5 Tryz.prog 105 #[.func (.func 145) #[] #[.pointer (some ⟨w.heap.size, 0, none⟩)]] (w.alloc (.cells #[.map (some b)] 99)) fun e w' => ∃ (v : Value) (ss : List (List UInt8)), e = .returned v ∧ ss.Perm (strKeys D0) ∧
      w'.ownsRow (w.alloc (.cells #[.map (some b)] 99)).heap.size 9 1 v ss.length ((ss.mergeSort (fun x y => decide (x ≤ y))).map encStr) ∧ (v = .slice none 0 0 ↔ ss = []) ∧ Below (w.alloc (.cells #[.map (some b)] 99)).heap.size (w.alloc (.cells #[.map (some b)] 99)) w' := by
  have hbl := hown.lt
  have hseq : SeqGives Fence.wide 2 Tryz.prog 145 #[.pointer (some ⟨w.heap.size, 0, none⟩)] encStr (fun ss => ss.Perm (strKeys D0)) (Maps.size D0) (w.alloc (.cells #[.map (some b)] 99)) :=
    AnyZ.keys_gives (ρ := Tryz.keysZ_ren) { Tryz.keysZ with } Fence.wide _ trivial rfl (by omega) w.heap.size b nn D0 _ (by simp) (by simp) (by
      obtain ⟨es, clock, hb, Ft, hs, hD⟩ := hown
      exact ⟨es, clock, (Below.heap_alloc _ _ b hbl).trans hb, Ft, hs, hD⟩)
  exact AnyZ.sorted_in Tryz.sortedZ Fence.wide 5 trivial trivial trivial trivial rfl (by omega) (sortsZ _) (enters_of Tryz.func144 (by kernel_rfl) rfl) 145 #[.pointer (some ⟨w.heap.size, 0, none⟩)] trivial (enters_of Tryz.func145 (by kernel_rfl) rfl) _ _ hmax hbytes _ hseq
def nv (ns : List Nm) : List Value := ns.map Value.string
theorem rise_nodup {l : Fls} (h : Rise l) : (l.map Prod.fst).Nodup := by
  induction l with
  | nil => exact List.nodup_nil
  | cons q r ih =>
    obtain ⟨n, g⟩ := q
    rw [List.map_cons]
    refine List.nodup_cons.2 ⟨fun hm => ?_, ih h.2⟩
    obtain ⟨p, hp, e⟩ := List.mem_map.1 hm
    have := h.1 p hp
    rw [e] at this
    exact ltN_irrefl _ this
theorem rise_sorted {l : Fls} (h : Rise l) : ((l.map Prod.fst).map (fun s : Nm => s.data.toList)).Pairwise (fun a b => leB a b = true) := by
  induction l with
  | nil => exact List.Pairwise.nil
  | cons q r ih =>
    obtain ⟨n, g⟩ := q
    rw [List.map_cons, List.map_cons]
    refine List.pairwise_cons.2 ⟨fun x hx => ?_, ih h.2⟩
    rw [List.map_map] at hx
    obtain ⟨p, hp, e⟩ := List.mem_map.1 hx
    have := h.1 p hp
    rw [← e]
    simp only [leB, decide_eq_true_eq]
    exact List.le_of_lt this
theorem rising_any (d bm n : Nat) (r : Raw) (m : Nm → Option FV) (l : Fls) (hl : Rise l) (hm : ∀ s, (m s).isSome = (look l s).isSome) (hn : l.length ≤ 1000000) (w : World) (hD : DR w d bm n r m) :
    Calls Tryz.prog 69 #[.pointer (some ⟨d, 0, none⟩)] w fun e w' => ∃ v, e = .returned v ∧ w'.ownsRow w.heap.size 9 1 v l.length (nv (l.map Prod.fst)) ∧ Below w.heap.size w w' := by
  obtain ⟨D, hown, hperm, hsz⟩ := hD.map.keys (l.map Prod.fst) (rise_nodup hl) (fun s => by rw [hm s, look_isSome])
  rw [List.length_map] at hsz
  have q1 := hD.c1
  have cK : Calls Tryz.prog 106 #[.map (some bm)] w fun e w' => e = .returned (.func (.func 145) #[] #[.pointer (some ⟨w.heap.size, 0, none⟩)]) ∧ w' = w.alloc (.cells #[.map (some bm)] 99) := callsIn_wide.1 (keys_any (some bm) w)
  have cS := callsIn_wide.1 (sorted_any bm n D Rf w hown (by unfold maxLen; omega) (by omega))
  clear hown
  go_enter Tryz.func69, Tryz.ntmps69
  go_wp2_with (first
    | (go_at_call 106; refine cK.mono ?_; rintro e w1 ⟨rfl, rfl⟩)
    | (go_at_call 105; refine cS.mono ?_; rintro e w2 ⟨v, ss, rfl, hS, hrow, hnil, hb⟩))
  go_ret
  have hp2 : ss.Perm ((l.map Prod.fst).map (fun s : Nm => s.data.toList)) := hS.trans hperm.symm
  have e1 : ss.mergeSort (fun x y => decide (x ≤ y)) = (l.map Prod.fst).map (fun s : Nm => s.data.toList) := (mergeSort_of_perm hp2).trans (List.mergeSort_of_pairwise (rise_sorted hl))
  have e2 : ss.length = l.length := by rw [hp2.length_eq, List.length_map, List.length_map]
  rw [e1, e2] at hrow
  refine ⟨v, rfl, own_weak (B := (w.alloc (.cells #[.map (some bm)] 99)).heap.size) ?_ (by simp), ((Below.refl _ w).alloc (Nat.le_refl _) _).trans (hb.mono (by simp))⟩
  have e3 : nv (l.map Prod.fst) = ((l.map Prod.fst).map (fun s : Nm => s.data.toList)).map encStr := by
    simp [nv, Function.comp_def, encStr]
  rw [e3]
  exact hrow
theorem len_slice (a : Option Addr) (n c : Nat) (t ty : TypeId) (w : World) (h : Tryz.prog.underlying t = some (.slice 5)) : (Builtin.len_ #[t] ty #[.slice a n c]).run Tryz.prog w = .ok (.int .i64 n) w := by
  simp [Builtin.len_, run_underlying h, goInt]
set_option maxRecDepth 100000 in
set_option maxHeartbeats 2000000 in
theorem put_any (d bm n : Nat) (r : Raw) (m : Nm → Option FV) (s : Nm) (hs : s.size ≤ 281474976710656) (hn : n < 1000000) (a : Option Nat) (ln cp : Nat) (sf : Int) (w : World) (hD : DR w d bm n r m)
    (hu0 : 0 ≤ r.used) (hu1 : r.used ≤ 1000000000) (hl : ln ≤ 1000000000) (ho : ((m s).getD fv0).2.1 ≤ 1000000000) :
    Calls Tryz.prog 52 #[.pointer (some ⟨d, 0, none⟩), .string s, .agg #[.slice (a.map fun g => ⟨g, 0, none⟩) ln cp, .int .i64 sf]] w fun e w' =>
      e = .returned (.tuple #[]) ∧ DR w' d bm (n + 1) { r with used := r.used + ((ln : Int) - (((m s).getD fv0).2.1 : Int)) } (mputF m s (some (a, ln, cp, sf))) ∧ Keep (fun k => k = d ∨ k = bm) w w' := by
  have hmax : s.size ≤ maxLen := by unfold maxLen; omega
  obtain ⟨old, HO⟩ : ∃ old, Hid ((m s).getD fv0 = old) := ⟨_, rfl⟩
  rw [HO.out] at ho ⊢
  obtain ⟨g0, l0, c0, s0⟩ := old
  dsimp only at ho ⊢
  obtain ⟨A, hA⟩ : ∃ A : Option Addr, (a.map fun g => (⟨g, 0, none⟩ : Addr)) = A := ⟨_, rfl⟩
  obtain ⟨B, hB⟩ : ∃ B : Option Addr, (g0.map fun g => (⟨g, 0, none⟩ : Addr)) = B := ⟨_, rfl⟩
  have hfv : fv (a, ln, cp, sf) = .agg #[.slice A ln cp, .int .i64 sf] := by unfold fv slv; rw [hA]
  have hfo : fv (g0, l0, c0, s0) = .agg #[.slice B l0 c0, .int .i64 s0] := by unfold fv slv; rw [hB]
  rw [hA]
  have hw1 : IntKind.i64.wrap ((ln : Int) - (l0 : Int)) = (ln : Int) - (l0 : Int) := by rw [IntKind.wrap_i64]; omega
  have hw2 : IntKind.i64.wrap (r.used + ((ln : Int) - (l0 : Int))) = r.used + ((ln : Int) - (l0 : Int)) := by rw [IntKind.wrap_i64]; omega
  have hlen1 := fun w => len_slice A ln cp 29 3 w Tryz.underlying29
  have hlen2 := fun w => len_slice B l0 c0 29 3 w Tryz.underlying29
  clear hA hB
  go_enter Tryz.func52, Tryz.ntmps52
  go_upto_region 1 with fail
  have hsz : (w.alloc (Obj.cells #[.slice A ln cp, .int .i64 sf] 106)).heap.size = w.heap.size + 1 := by simp
  have hD1 := hD.alloc (Obj.cells #[.slice A ln cp, .int .i64 sf] 106)
  have hk1 : Keep (fun k => k = d ∨ k = bm) w (w.alloc (Obj.cells #[.slice A ln cp, .int .i64 sf] 106)) := (Keep.refl _ _).alloc _
  have hbox := alloc_at w (Obj.cells #[.slice A ln cp, .int .i64 sf] 106)
  have hdl := hD.lt
  have hbl := hD.map.lt
  generalize hW1 : w.alloc (Obj.cells #[.slice A ln cp, .int .i64 sf] 106) = w1 at *
  obtain ⟨b, hb⟩ : ∃ b, w.heap.size = b := ⟨_, rfl⟩
  rw [hb] at hsz hbox hdl hbl ⊢
  clear hW1
  refine wp_region_lx (fun w' => w' = w1.drew) [19] 20 (by kernel_rfl) (by kernel_rfl) ?_
  have hD2 : DR w1.drew d bm n r m := hD1.keep (S := fun _ => False) (Keep.refl _ _).drew (fun h => h) (fun h => h)
  have hk2 : Keep (fun k => k = d ∨ k = bm) w w1.drew := hk1.drew
  have hbox2 : w1.drew.heap[b]? = some (Obj.cells #[.slice A ln cp, .int .i64 sf] 106) := hbox
  have hsz2 : w1.drew.heap.size = b + 1 := hsz
  clear hD1 hk1 hbox hsz
  generalize w1.drew = W at *
  have q1 := hD2.c1
  have q2 := hD2.c2
  have z2 := hD2.fz 2
  have b0 : W.cell? ⟨b, 0, none⟩ = some (.slice A ln cp) := by simp [World.cell?, hbox2]
  have b1 : W.cell? ⟨b, 1, none⟩ = some (.int .i64 sf) := by simp [World.cell?, hbox2]
  have hlk : (Instr.lookup 99 (.map (some bm)) (.string s) false).run Tryz.prog W = .ok (.agg #[.slice B l0 c0, .int .i64 s0]) W := by
    have := hD2.map.look1 s hmax
    rw [HO.out, hfo] at this
    exact this
  have hfd : (Instr.field 106 (.agg #[.slice B l0 c0, .int .i64 s0]) 0).run Tryz.prog W = .ok (.slice B l0 c0) W := by simp [Instr.field, go_sem, asAgg]
  have HS0 : W = W := rfl
  refine lx_r 0 _ HS0 ?_; simp only [lxa, lxb, lxc]
  refine lx_r 1 _ HS0 ?_; simp only [lxa, lxb, lxc]
  refine lx_r 2 _ HS0 ?_; simp only [lxa, lxb, lxc]
  refine lx_r 3 (.int .i64 r.used) HS0 ?_ (hv := fun w' hS => by subst hS; first | (go_simp; rfl) | go_simp); simp only [lxa, lxb, lxc]
  refine lx_r 4 _ HS0 ?_; simp only [lxa, lxb, lxc]
  refine lx_r 5 (.slice A ln cp) HS0 ?_ (hv := fun w' hS => by subst hS; first | (go_simp; rfl) | go_simp); simp only [lxa, lxb, lxc]
  refine lx_r 6 (.int .i64 ln) HS0 ?_ (hv := fun w' hS => by subst hS; first | (go_simp; rfl) | go_simp); simp only [lxa, lxb, lxc]
  refine lx_r 7 _ HS0 ?_; simp only [lxa, lxb, lxc]
  refine lx_r 8 _ HS0 ?_; simp only [lxa, lxb, lxc]
  refine lx_r 9 _ HS0 ?_; simp only [lxa, lxb, lxc]
  refine lx_r 10 (.map (some bm)) HS0 ?_ (hv := fun w' hS => by subst hS; first | (go_simp; rfl) | go_simp); simp only [lxa, lxb, lxc]
  refine lx_r 11 _ HS0 ?_; simp only [lxa, lxb, lxc]
  refine lx_r 12 (.agg #[.slice B l0 c0, .int .i64 s0]) HS0 ?_ (hv := fun w' hS => by subst hS; first | (go_simp; rfl) | go_simp); simp only [lxa, lxb, lxc]
  refine lx_r 13 (.slice B l0 c0) HS0 ?_ (hv := fun w' hS => by subst hS; first | (go_simp; rfl) | go_simp); simp only [lxa, lxb, lxc]
  refine lx_r 14 (.int .i64 l0) HS0 ?_ (hv := fun w' hS => by subst hS; first | (go_simp; rfl) | go_simp); simp only [lxa, lxb, lxc]
  refine lx_r 15 (.int .i64 ((ln : Int) - l0)) HS0 ?_ (hv := fun w' hS => by subst hS; first | (go_simp; rfl) | go_simp); simp only [lxa, lxb, lxc]
  refine lx_r 16 (.int .i64 (r.used + ((ln : Int) - l0))) HS0 ?_ (hv := fun w' hS => by subst hS; first | (go_simp; rfl) | go_simp); simp only [lxa, lxb, lxc]
  refine lx_one 17 (by kernel_rfl) (stepT_val (w' := W) (.pointer (some ⟨d, 0, none⟩)) rfl rfl rfl ?r17 (fun _ => rfl) ?_)
  case r17 => first | (go_simp; rfl) | go_simp
  simp only [lxa, lxb, lxc]
  refine lx_one 18 (by kernel_rfl) (stepT_val (w' := W) (.pointer (some ⟨d, 2, none⟩)) rfl rfl rfl ?r18 (fun _ => rfl) ?_)
  case r18 => first | (go_simp; rfl) | go_simp
  simp only [lxa, lxb, lxc]
  refine lx_one 19 (by kernel_rfl) (stepT_store (w' := W.setCell ⟨d, 2, none⟩ (.int .i64 (r.used + ((ln : Int) - l0)))) rfl rfl rfl ?r19 (fun h => by cases h) ?_)
  case r19 => first | (go_simp; rfl) | go_simp
  refine lx_nil (by kernel_rfl) ?_
  have hD3 := hD2.set 2 (.int .i64 (r.used + ((ln : Int) - l0))) { r with used := r.used + ((ln : Int) - l0) } rfl
  have hk3 := hk2.trans ((hD2.setK 2 (.int .i64 (r.used + ((ln : Int) - l0)))).mono (fun _ e => Or.inl e))
  have hbox3 : (W.setCell ⟨d, 2, none⟩ (.int .i64 (r.used + ((ln : Int) - l0)))).heap[b]? = some (Obj.cells #[.slice A ln cp, .int .i64 sf] 106) := ((hD2.setK 2 (.int .i64 (r.used + ((ln : Int) - l0)))).block b (by omega) (by omega)).trans hbox2
  clear hD2 hk2 hbox2 q1 q2 z2 b0 b1 hlk hfd hsz2 HS0 hw1 hw2 hlen1 hlen2
  generalize W.setCell ⟨d, 2, none⟩ (.int .i64 (r.used + ((ln : Int) - l0))) = W3 at *
  go_upto_region 2 with fail
  refine wp_region_lx (fun w' => DR w' d bm n { r with used := r.used + ((ln : Int) - l0) } m ∧ w'.heap[b]? = some (Obj.cells #[.slice A ln cp, .int .i64 sf] 106)) [7] 8 (by kernel_rfl) (by kernel_rfl) ?_
  have HS : DR W3.drew d bm n { r with used := r.used + ((ln : Int) - l0) } m ∧ W3.drew.heap[b]? = some (Obj.cells #[.slice A ln cp, .int .i64 sf] 106) := ⟨hD3.keep (S := fun _ => False) (Keep.refl _ _).drew (fun h => h) (fun h => h), hbox3⟩
  have hk4 : Keep (fun k => k = d ∨ k = bm) w W3.drew := hk3.drew
  clear hD3 hk3 hbox3
  generalize W3.drew = W4 at *
  refine lx_r 0 _ HS ?_; simp only [lxa, lxb, lxc]
  refine lx_r 1 _ HS ?_; simp only [lxa, lxb, lxc]
  refine lx_r 2 _ HS ?_; simp only [lxa, lxb, lxc]
  refine lx_r 3 (.map (some bm)) HS ?_ (hv := fun w' hS => by have q := hS.1.c1; first | (go_simp; rfl) | go_simp); simp only [lxa, lxb, lxc]
  refine lx_r 4 _ HS ?_; simp only [lxa, lxb, lxc]
  refine lx_r 6 (.agg #[.slice A ln cp, .int .i64 sf]) HS ?_ (hv := fun w' hS => by have q1 : w'.cell? ⟨b, 0, none⟩ = some (.slice A ln cp) := (by simp [World.cell?, hS.2]); have q2 : w'.cell? ⟨b, 1, none⟩ = some (.int .i64 sf) := (by simp [World.cell?, hS.2]); first | (go_simp; rfl) | go_simp); simp only [lxa, lxb, lxc]
  refine lx_one 5 (by kernel_rfl) (stepT_call 87 ?aR5 rfl rfl rfl ?rR5 ?_)
  case rR5 => first | (go_simp; rfl) | go_simp
  refine (clone_any s _ hs).mono ?_
  rintro e w5 ⟨rfl, hb5⟩
  have HS5 : DR w5 d bm n { r with used := r.used + ((ln : Int) - l0) } m ∧ w5.heap[b]? = some (Obj.cells #[.slice A ln cp, .int .i64 sf] 106) := ⟨HS.1.below hb5, (hb5.block b (Array.getElem?_eq_some_iff.1 HS.2).1).trans HS.2⟩
  have hk5 : Keep (fun k => k = d ∨ k = bm) w w5 := hk4.trans (Keep.ofBelow hb5)
  refine ⟨_, rfl, fun _ => HS5, ?_⟩
  simp only [lxa, lxb, lxc]
  obtain ⟨w6, hrun, hM6, hk6⟩ := HS5.1.map.store hn s hmax (a, ln, cp, sf)
  refine lx_one 7 (by kernel_rfl) (stepT_store (w' := w6) rfl rfl rfl ?rR7 (fun h => by cases h) ?_)
  case rR7 =>
    have hr : (Instr.mapUpdate 99 (.map (some bm)) (.string s) (.agg #[.slice A ln cp, .int .i64 sf])).run Tryz.prog w5 = .ok () w6 := by rw [← hfv]; exact hrun
    go_simp
  refine lx_nil (by kernel_rfl) ?_
  go_wp2
  go_end0
  exact ⟨rfl, ⟨(hk6.block d HS5.1.lt (fun e => HS5.1.ne e)).trans HS5.1.blk, hM6⟩, hk5.trans (hk6.mono (fun _ e => Or.inr e))⟩
set_option maxRecDepth 100000 in
set_option maxHeartbeats 2000000 in
theorem drop_any (d bm n : Nat) (r : Raw) (m : Nm → Option FV) (s : Nm) (hs : s.size ≤ maxLen) (w : World) (hD : DR w d bm n r m)
    (hu0 : 0 ≤ r.used) (hu1 : r.used ≤ 1000000000) (ho : ((m s).getD fv0).2.1 ≤ 1000000000) :
    Calls Tryz.prog 147 #[.pointer (some ⟨d, 0, none⟩), .string s] w fun e w' =>
      e = .returned (.tuple #[]) ∧ DR w' d bm n { r with used := r.used - (((m s).getD fv0).2.1 : Int) } (mputF m s none) ∧ Keep (fun k => k = d ∨ k = bm) w w' := by
  obtain ⟨old, HO⟩ : ∃ old, Hid ((m s).getD fv0 = old) := ⟨_, rfl⟩
  rw [HO.out] at ho ⊢
  obtain ⟨g0, l0, c0, s0⟩ := old
  dsimp only at ho ⊢
  obtain ⟨B, hB⟩ : ∃ B : Option Addr, (g0.map fun g => (⟨g, 0, none⟩ : Addr)) = B := ⟨_, rfl⟩
  have hfo : fv (g0, l0, c0, s0) = .agg #[.slice B l0 c0, .int .i64 s0] := by unfold fv slv; rw [hB]
  have hw2 : IntKind.i64.wrap (r.used - (l0 : Int)) = r.used - (l0 : Int) := by rw [IntKind.wrap_i64]; omega
  have hlen2 := fun w => len_slice B l0 c0 29 3 w Tryz.underlying29
  clear hB
  go_enter Tryz.func147, Tryz.ntmps147
  go_upto_region 0 with fail
  refine wp_region_lx (fun w' => w' = w.drew) [15] 16 (by kernel_rfl) (by kernel_rfl) ?_
  have hD2 : DR w.drew d bm n r m := hD.keep (S := fun _ => False) (Keep.refl _ _).drew (fun h => h) (fun h => h)
  have hk2 : Keep (fun k => k = d ∨ k = bm) w w.drew := (Keep.refl _ _).drew
  clear hD
  generalize w.drew = W at *
  have q1 := hD2.c1
  have q2 := hD2.c2
  have z2 := hD2.fz 2
  have hlk : (Instr.lookup 99 (.map (some bm)) (.string s) false).run Tryz.prog W = .ok (.agg #[.slice B l0 c0, .int .i64 s0]) W := by
    have := hD2.map.look1 s hs
    rw [HO.out, hfo] at this
    exact this
  have hfd : (Instr.field 106 (.agg #[.slice B l0 c0, .int .i64 s0]) 0).run Tryz.prog W = .ok (.slice B l0 c0) W := by simp [Instr.field, go_sem, asAgg]
  have HS0 : W = W := rfl
  refine lx_r 0 _ HS0 ?_; simp only [lxa, lxb, lxc]
  refine lx_r 1 _ HS0 ?_; simp only [lxa, lxb, lxc]
  refine lx_r 2 _ HS0 ?_; simp only [lxa, lxb, lxc]
  refine lx_r 3 (.int .i64 r.used) HS0 ?_ (hv := fun w' hS => by subst hS; first | (go_simp; rfl) | go_simp); simp only [lxa, lxb, lxc]
  refine lx_r 4 _ HS0 ?_; simp only [lxa, lxb, lxc]
  refine lx_r 5 _ HS0 ?_; simp only [lxa, lxb, lxc]
  refine lx_r 6 _ HS0 ?_; simp only [lxa, lxb, lxc]
  refine lx_r 7 (.map (some bm)) HS0 ?_ (hv := fun w' hS => by subst hS; first | (go_simp; rfl) | go_simp); simp only [lxa, lxb, lxc]
  refine lx_r 8 _ HS0 ?_; simp only [lxa, lxb, lxc]
  refine lx_r 9 (.agg #[.slice B l0 c0, .int .i64 s0]) HS0 ?_ (hv := fun w' hS => by subst hS; first | (go_simp; rfl) | go_simp); simp only [lxa, lxb, lxc]
  refine lx_r 10 (.slice B l0 c0) HS0 ?_ (hv := fun w' hS => by subst hS; first | (go_simp; rfl) | go_simp); simp only [lxa, lxb, lxc]
  refine lx_r 11 (.int .i64 l0) HS0 ?_ (hv := fun w' hS => by subst hS; first | (go_simp; rfl) | go_simp); simp only [lxa, lxb, lxc]
  refine lx_r 12 (.int .i64 (r.used - l0)) HS0 ?_ (hv := fun w' hS => by subst hS; first | (go_simp; rfl) | go_simp); simp only [lxa, lxb, lxc]
  refine lx_one 13 (by kernel_rfl) (stepT_val (w' := W) (.pointer (some ⟨d, 0, none⟩)) rfl rfl rfl ?r17 (fun _ => rfl) ?_)
  case r17 => first | (go_simp; rfl) | go_simp
  simp only [lxa, lxb, lxc]
  refine lx_one 14 (by kernel_rfl) (stepT_val (w' := W) (.pointer (some ⟨d, 2, none⟩)) rfl rfl rfl ?r18 (fun _ => rfl) ?_)
  case r18 => first | (go_simp; rfl) | go_simp
  simp only [lxa, lxb, lxc]
  refine lx_one 15 (by kernel_rfl) (stepT_store (w' := W.setCell ⟨d, 2, none⟩ (.int .i64 (r.used - l0))) rfl rfl rfl ?r19 (fun h => by cases h) ?_)
  case r19 => first | (go_simp; rfl) | go_simp
  refine lx_nil (by kernel_rfl) ?_
  have hD3 := hD2.set 2 (.int .i64 (r.used - l0)) { r with used := r.used - l0 } rfl
  have hk3 := hk2.trans ((hD2.setK 2 (.int .i64 (r.used - l0))).mono (fun _ e => Or.inl e))
  clear hD2 hk2 q1 q2 z2 hlk hfd HS0 hw2 hlen2
  generalize W.setCell ⟨d, 2, none⟩ (.int .i64 (r.used - l0)) = W3 at *
  have q1 := hD3.c1
  go_wp2_with (first
    | (at_delete; refine wp_dropF rfl _ _ rfl bm n m rfl hD3.map s hs rfl ?_; intro w4 hM4 hk4))
  go_end0
  exact ⟨rfl, ⟨(hk4.block d hD3.lt (fun e => hD3.ne e)).trans hD3.blk, hM4⟩, hk3.trans (hk4.mono (fun _ e => Or.inr e))⟩
theorem find_ok (d bm n : Nat) (r : Raw) (m : Nm → Option FV) (s : Nm) (hs : isNm s = true) (a : Option Nat) (ln cp : Nat) (sf : Int) (hm : m s = some (a, ln, cp, sf)) (w : World) (hD : DR w d bm n r m) :
    Calls Tryz.prog 89 #[.pointer (some ⟨d, 0, none⟩), .string s] w fun e w' => e = .returned (.agg #[.slice (a.map fun g => ⟨g, 0, none⟩) ln cp, .int .i64 sf]) ∧ Below w.heap.size w w' := by
  have hmax : s.size ≤ maxLen := by have := isNm_size hs; unfold maxLen; omega
  have hfv : fv ((m s).getD fv0) = .agg #[.slice (a.map fun g => ⟨g, 0, none⟩) ln cp, .int .i64 sf] := by rw [hm]; rfl
  have hsm : (m s).isSome = true := by rw [hm]; rfl
  obtain ⟨A, hA⟩ : ∃ A : Option Addr, (a.map fun g => (⟨g, 0, none⟩ : Addr)) = A := ⟨_, rfl⟩
  rw [hA] at hfv ⊢
  have hN := fun w => isName_any s w
  rw [hs] at hN
  have hb0 : Below w.heap.size w (w.alloc (.cells #[.slice none 0 0, .int .i64 0] 106)) := (Below.refl _ _).alloc (Nat.le_refl _) _
  clear hA hm
  go_enter Tryz.func89, Tryz.ntmps89
  go_upto_region 2 with (first
    | (go_at_call 51; refine (hN _).mono ?_; rintro e w1 ⟨rfl, hb1⟩)
    | (go_at_call 50; refine (ask_ok _ _).mono ?_; rintro e w2 ⟨rfl, rfl⟩))
  have hb2 : Below w.heap.size w w2 := hb0.trans (hb1.mono (by simp))
  have hD2 := hD.below hb2
  have q1 := hD2.c1
  have hres := (hb1.block w.heap.size (by simp)).trans (alloc_at w _)
  have hsz := hb2.size
  have hlt : w.heap.size < w2.heap.size := (Array.getElem?_eq_some_iff.1 hres).1
  clear hb0 hb1 hN
  go_upto_region 4 with (first
    | (at_lookup; refine wp_look2 rfl _ _ rfl bm n m rfl hD2.map s hmax rfl _ _ hfv true hsm ?_)
    | (go_at_call 50; refine (ask_ok _ _).mono ?_; rintro e w3 ⟨rfl, rfl⟩))
  obtain ⟨b, hb⟩ : ∃ b, w.heap.size = b := ⟨_, rfl⟩
  have l0 : (w2.alloc (.cells #[.slice A ln cp, .int .i64 sf] 106)).cell? ⟨w2.heap.size, 0, none⟩ = some (.slice A ln cp) := World.cell?_alloc_at _ _ _ 0 rfl
  have l1 : (w2.alloc (.cells #[.slice A ln cp, .int .i64 sf] 106)).cell? ⟨w2.heap.size, 1, none⟩ = some (.int .i64 sf) := World.cell?_alloc_at _ _ _ 1 rfl
  have hb3 : Below w.heap.size w (w2.alloc (.cells #[.slice A ln cp, .int .i64 sf] 106)) := hb2.alloc hsz _
  have rb : (w2.alloc (.cells #[.slice A ln cp, .int .i64 sf] 106)).heap[w.heap.size]? = some (.cells #[.slice none 0 0, .int .i64 0] 106 (0, 0)) := (Below.heap_alloc _ _ _ hlt).trans hres
  clear hres hsz hlt q1 hD2 hb2
  generalize w2.alloc (.cells #[.slice A ln cp, .int .i64 sf] 106) = W at *
  have rb1 := block_setCell (i := 0) rb (.slice A ln cp)
  have c0 := cell_of_block rb 0
  have z0 := unfrozen_of_block rb 0
  have c1 := cell_of_block rb1 1
  have z1 := unfrozen_of_block rb1 1
  have rb2 := block_setCell (i := 1) rb1 (.int .i64 sf)
  have d0 := cell_of_block rb2 0
  have d1 := cell_of_block rb2 1
  simp at c0 c1 d0 d1
  rw [hb] at rb rb1 c0 z0 c1 z1 rb2 d0 d1 ⊢
  go_wp2
  refine bodyPost_ret (v := .agg #[.slice A ln cp, .int .i64 sf]) (by simp [results, Tryz.results89, go_sem, d0, d1]) rfl ⟨rfl, ?_⟩
  subst hb
  exact (hb3.setCell (p := ⟨w.heap.size, 0, none⟩) (Nat.le_refl _) _).setCell (p := ⟨w.heap.size, 1, none⟩) (Nat.le_refl _) _
theorem find_none (d bm n : Nat) (r : Raw) (m : Nm → Option FV) (s : Nm) (hs : isNm s = true) (hm : m s = none) (w : World) (hD : DR w d bm n r m) :
    Calls Tryz.prog 89 #[.pointer (some ⟨d, 0, none⟩), .string s] w fun e w' => e = .panicked (gaveUp 7) ∧ Below w.heap.size w w' := by
  have hmax : s.size ≤ maxLen := by have := isNm_size hs; unfold maxLen; omega
  have hfv : fv ((m s).getD fv0) = .agg #[.slice none 0 0, .int .i64 0] := by rw [hm]; rfl
  have hsm : (m s).isSome = false := by rw [hm]; rfl
  have hN := fun w => isName_any s w
  rw [hs] at hN
  have hb0 : Below w.heap.size w (w.alloc (.cells #[.slice none 0 0, .int .i64 0] 106)) := (Below.refl _ _).alloc (Nat.le_refl _) _
  clear hm
  go_enter Tryz.func89, Tryz.ntmps89
  go_upto_region 2 with (first
    | (go_at_call 51; refine (hN _).mono ?_; rintro e w1 ⟨rfl, hb1⟩)
    | (go_at_call 50; refine (ask_ok _ _).mono ?_; rintro e w2 ⟨rfl, rfl⟩))
  have hb2 : Below w.heap.size w w2 := hb0.trans (hb1.mono (by simp))
  have hD2 := hD.below hb2
  have q1 := hD2.c1
  have hsz := hb2.size
  clear hb0 hb1 hN
  go_wp2_with (first
    | (at_lookup; refine wp_look2 rfl _ _ rfl bm n m rfl hD2.map s hmax rfl _ _ hfv false hsm ?_)
    | (go_at_call 50; refine (ask_no 7 _).mono ?_; rintro e w3 ⟨rfl, rfl⟩))
  exact ⟨rfl, rfl, hb2.alloc hsz _⟩
theorem find_name (d : Nat) (s : Nm) (hs : isNm s = false) (w : World) :
    Calls Tryz.prog 89 #[.pointer (some ⟨d, 0, none⟩), .string s] w fun e w' => e = .panicked (gaveUp 4) ∧ Below w.heap.size w w' := by
  have hN := fun w => isName_any s w
  rw [hs] at hN
  have hb0 : Below w.heap.size w (w.alloc (.cells #[.slice none 0 0, .int .i64 0] 106)) := (Below.refl _ _).alloc (Nat.le_refl _) _
  go_enter Tryz.func89, Tryz.ntmps89
  go_wp2_with (first
    | (go_at_call 51; refine (hN _).mono ?_; rintro e w1 ⟨rfl, hb1⟩)
    | (go_at_call 50; refine (ask_no 4 _).mono ?_; rintro e w2 ⟨rfl, rfl⟩))
  exact ⟨rfl, rfl, hb0.trans (hb1.mono (by simp))⟩
end Go.Proofs.YtikkieaokfailaaGreatDoor

namespace Go.Proofs.YtikkieaokfailaaGreatDoor
open Go.RowKit Go.Joins
def rawK (k : Dk) : Raw := ⟨k.room, used k.fs, k.steps, k.off, k.fu.isSome, ((k.fu.getD 0 : Nat) : Int)⟩
def Tie (w : World) (F : Nat → Prop) : Option FV → Option Fle → Prop
 | none, none => True
 | some c, some f => c.2.2.2 = (f.safe : Int) ∧ c.2.1 = f.b.length ∧ w.ownsRow 0 5 1 (slv c) f.b.length (bc f.b) ∧ (∀ g, c.1 = some g → F g)
 | _, _ => False
def Apart (m : Nm → Option FV) : Prop := ∀ s t c e g, s ≠ t → m s = some c → m t = some e → c.1 = some g → e.1 ≠ some g
theorem slv_own (c : FV) : (slv c).ownBlock = c.1 := by
 obtain ⟨a, n, p, s⟩ := c
 cases a <;> rfl
theorem Tie.some' {w : World} {F : Nat → Prop} {o : Option FV} {f : Fle} (h : Tie w F o (some f)) : ∃ c, o = some c ∧ c.2.2.2 = (f.safe : Int) ∧ c.2.1 = f.b.length ∧ w.ownsRow 0 5 1 (slv c) f.b.length (bc f.b) ∧ (∀ g, c.1 = some g → F g) := by
 cases o with
 | none => exact h.elim
 | some c => exact ⟨c, rfl, h⟩
theorem Tie.none' {w : World} {F : Nat → Prop} {o : Option FV} (h : Tie w F o none) : o = none := by
 cases o with
 | none => rfl
 | some c => exact h.elim
theorem Tie.isSome {w : World} {F : Nat → Prop} {o : Option FV} {f : Option Fle} (h : Tie w F o f) : o.isSome = f.isSome := by
 cases o <;> cases f <;> first | rfl | exact h.elim
theorem Tie.len {w : World} {F : Nat → Prop} {o : Option FV} {f : Option Fle} (h : Tie w F o f) : (o.getD fv0).2.1 = lenO f := by
 cases o <;> cases f
 ·rfl
 ·exact h.elim
 ·exact h.elim
 ·exact h.2.1
theorem Tie.keep {S : Nat → Prop} {w w' : World} {F G : Nat → Prop} {o : Option FV} {f : Option Fle} (h : Tie w F o f) (hk : Keep S w w') (hs : ∀ c g, o = some c → c.1 = some g → ¬ S g) (hG : ∀ i, F i → G i) : Tie w' G o f := by
 cases o <;> cases f
 ·trivial
 ·exact h.elim
 ·exact h.elim
 ·rename_i c f
  obtain ⟨h1, h2, h3, h4⟩ := h
  exact ⟨h1, h2, own_keep h3 hk (fun g hg => hs c g rfl (by rw [← slv_own]; exact hg)), fun g hg => hG g (h4 g hg)⟩
theorem Tie.blk {w : World} {F : Nat → Prop} {c : FV} {f : Option Fle} (h : Tie w F (some c) f) {g : Nat} (hg : c.1 = some g) : ∃ cur, w.heap[g]? = some (.cells cur 5 (0, 0)) := by
 cases f with
 | none => exact h.elim
 | some f =>
  rcases h.2.2.1.2 with ⟨hv, _⟩ | ⟨g', cap, cur, hv, _, hb, _⟩
  ·have := slv_own c; rw [hv, hg] at this; cases this
  ·have := slv_own c
   rw [hv, hg] at this
   have e : g' = g := by simpa [Value.ownBlock] using this
   subst e
   exact ⟨cur, hb⟩
structure DiskAt (w : World) (F : Nat → Prop) (d : Nat) (k : Dk) : Prop where
 ex : ∃ bm m, DR w d bm k.fs.length (rawK k) m ∧ F bm ∧ (∀ s, Tie w F (m s) (look k.fs s)) ∧ Apart m
 fd : F d
 lt : ∀ i, F i → i < w.heap.size
 good : k.Good
theorem DiskAt.of {w : World} {F : Nat → Prop} {d bm n : Nat} {k : Dk} {m : Nm → Option FV} (hD : DR w d bm n (rawK k) m) (hbm : F bm) (ht : ∀ s, Tie w F (m s) (look k.fs s)) (ha : Apart m) (fd : F d) (lt : ∀ i, F i → i < w.heap.size) (hg : k.Good) : DiskAt w F d k := by
 refine ⟨⟨bm, m, ⟨hD.blk, ?_⟩, hbm, ht, ha⟩, fd, lt, hg⟩
 have := hD.map.tight (k.fs.map Prod.fst) (rise_nodup hg.rise) (fun s => by rw [(ht s).isSome, look_isSome])
 rw [List.length_map] at this
 exact this
theorem DiskAt.keep {S : Nat → Prop} {w w' : World} {F : Nat → Prop} {d : Nat} {k : Dk} (h : DiskAt w F d k) (hk : Keep S w w') (hs : ∀ i, F i → ¬ S i) : DiskAt w' F d k := by
 obtain ⟨⟨bm, m, hD, hbm, ht, ha⟩, fd, lt, hg⟩ := h
 refine ⟨⟨bm, m, hD.keep hk (hs d fd) (hs bm hbm), hbm, fun s => ?_, ha⟩, fd, fun i hi => Nat.lt_of_lt_of_le (lt i hi) hk.size, hg⟩
 refine (ht s).keep hk (fun c g hc hcg => ?_) (fun _ h => h)
 have h1 := ht s
 rw [hc] at h1
 cases hf : look k.fs s with
 | none => rw [hf] at h1; exact h1.elim
 | some f => rw [hf] at h1; exact hs g (h1.2.2.2 g hcg)
theorem DiskAt.below {w w' : World} {F : Nat → Prop} {d : Nat} {k : Dk} (h : DiskAt w F d k) (hb : Below w.heap.size w w') : DiskAt w' F d k := h.keep (S := fun _ => False) (Keep.ofBelow hb) (fun _ _ h => h)
def Dp (w : World) (F : Nat → Prop) (d : Nat) (k' : Dk) (w' : World) : Prop := ∃ F', DiskAt w' F' d k' ∧ Keep F w w' ∧ (∀ i, F' i → F i ∨ w.heap.size ≤ i)
theorem Dp.refl {w : World} {F : Nat → Prop} {d : Nat} {k : Dk} (h : DiskAt w F d k) : Dp w F d k w := ⟨F, h, Keep.refl _ _, fun _ h => Or.inl h⟩
theorem Dp.ofBelow {w w' : World} {F : Nat → Prop} {d : Nat} {k : Dk} (h : DiskAt w F d k) (hb : Below w.heap.size w w') : Dp w F d k w' := ⟨F, h.below hb, Keep.ofBelow hb, fun _ h => Or.inl h⟩
theorem Dp.from {w0 w w' : World} {F : Nat → Prop} {d : Nat} {k' : Dk} (hb : Below w0.heap.size w0 w) (h : Dp w F d k' w') : Dp w0 F d k' w' := by
 obtain ⟨F', h1, h2, h3⟩ := h
 exact ⟨F', h1, (Keep.ofBelow hb).trans h2, fun i hi => (h3 i hi).imp id (fun h => Nat.le_trans hb.size h)⟩
theorem Dp.err {w0 w1 : World} {o : Obj} {F : Nat → Prop} {d : Nat} {k' : Dk} (h : Dp (w0.alloc o) F d k' w1) (hF : ∀ i, F i → i < w0.heap.size) (v : Value) : Dp w0 F d k' (w1.setCell ⟨w0.heap.size, 0, none⟩ v) := by
 obtain ⟨F', h1, h2, h3⟩ := h
 have hs : (w0.alloc o).heap.size = w0.heap.size + 1 := by simp
 refine ⟨F', h1.keep ((Keep.refl (fun k => k = w0.heap.size) w1).setCell (p := ⟨w0.heap.size, 0, none⟩) rfl v) (fun i hi e => ?_), (((Keep.refl F w0).alloc o).trans h2).setNew (Nat.le_refl _) v, fun i hi => (h3 i hi).imp id (fun h => by omega)⟩
 rcases h3 i hi with h | h
 ·have := hF i h; omega
 ·omega
theorem box_keep {S : Nat → Prop} {w w' : World} {b : Nat} {o : Obj} (h : w.heap[b]? = some o) (hk : Keep S w w') (hs : ¬ S b) : w'.heap[b]? = some o := (hk.block b (Array.getElem?_eq_some_iff.1 h).1 hs).trans h
theorem box_below {w w' : World} {b : Nat} {o : Obj} (h : w.heap[b]? = some o) (hk : Below w.heap.size w w') : w'.heap[b]? = some o := (hk.block b (Array.getElem?_eq_some_iff.1 h).1).trans h
theorem box_cell {w : World} {b : Nat} {v : Value} {t : TypeId} (h : w.heap[b]? = some (.cells #[v] t (0, 0))) : w.cell? ⟨b, 0, none⟩ = some v := by simp [World.cell?, h]
theorem look_good {k : Dk} (hg : k.Good) {s : Nm} {f : Fle} (h : look k.fs s = some f) : isNm s = true ∧ f.safe ≤ f.b.length ∧ Bd f.b := hg.each _ (look_mem h)
theorem row_own {w : World} {F : Nat → Prop} {k : Dk} {m : Nm → Option FV} (ht : ∀ t, Tie w F (m t) (look k.fs t)) (ha : Apart m) {s : Nm} {c : FV} {g : Nat} (hm : m s = some c) (hg : c.1 = some g) : F g ∧ ∀ t e, t ≠ s → m t = some e → e.1 ≠ some g := by
 have h1 := ht s
 rw [hm] at h1
 refine ⟨?_, fun t e hts he h => ha s t c e g (fun e => hts e.symm) hm he hg h⟩
 cases hf : look k.fs s with
 | none => rw [hf] at h1; exact h1.elim
 | some f => rw [hf] at h1; exact h1.2.2.2 g hg
theorem row_new {w : World} {F : Nat → Prop} {k : Dk} {m : Nm → Option FV} (ht : ∀ t, Tie w F (m t) (look k.fs t)) (lt : ∀ i, F i → i < w.heap.size) {g : Nat} (hg : w.heap.size ≤ g) : ∀ t e, m t = some e → e.1 ≠ some g := fun t e he h => by
 have h1 := ht t
 rw [he] at h1
 cases hf : look k.fs t with
 | none => rw [hf] at h1; exact h1.elim
 | some f => rw [hf] at h1; have := lt g (h1.2.2.2 g h); omega
theorem DiskAt.put {w w1 w' : World} {F S : Nat → Prop} {d bm n : Nat} {k k1 : Dk} {m : Nm → Option FV} {s : Nm} {c : FV} {f : Fle}
  (hbm : F bm) (ht : ∀ t, Tie w F (m t) (look k.fs t)) (ha : Apart m) (fd : F d) (lt : ∀ i, F i → i < w.heap.size)
  (hbl : w.heap[d]? = some (.cells (rcs (rawK k) bm) 101 (0, 0))) (hmp : FMap w bm k.fs.length m)
  (hk : Keep S w w1) (hS : ∀ i, S i → (∃ c0, m s = some c0 ∧ c0.1 = some i)) (hk1 : Keep (fun i => i = d ∨ i = bm) w1 w')
  (hD : DR w' d bm n (rawK k1) (mputF m s (some c))) (hk1fs : k1.fs = putL k.fs s f) (hr : Rise k.fs) (hg : k1.Good)
  (hc1 : c.2.2.2 = (f.safe : Int)) (hc2 : c.2.1 = f.b.length) (hc3 : w'.ownsRow 0 5 1 (slv c) f.b.length (bc f.b))
  (hc4 : ∀ g, c.1 = some g → (F g ∨ (w.heap.size ≤ g ∧ g < w'.heap.size)) ∧ ∀ t e, t ≠ s → m t = some e → e.1 ≠ some g) : Dp w F d k1 w' := by
 have hsz : w.heap.size ≤ w'.heap.size := Nat.le_trans hk.size hk1.size
 have hold : ∀ t e g, m t = some e → e.1 = some g → F g ∧ g ≠ d ∧ g ≠ bm ∧ g < w.heap.size := fun t e g he hg => by
  have h1 := ht t
  rw [he] at h1
  obtain ⟨cur, hb⟩ := h1.blk hg
  have hF : F g := by
   cases hf : look k.fs t with
   | none => rw [hf] at h1; exact h1.elim
   | some f => rw [hf] at h1; exact h1.2.2.2 g hg
  refine ⟨hF, fun e => ?_, fun e => ?_, lt g hF⟩
  ·subst e; rw [hbl] at hb; cases hb
  ·subst e; exact hmp.notCells hb rfl
 refine ⟨fun i => F i ∨ (w.heap.size ≤ i ∧ i < w'.heap.size), DiskAt.of hD (Or.inl hbm) (fun t => ?_) (fun t u e1 e2 g htu h1 h2 hg1 hg2 => ?_) (Or.inl fd) (fun i hi => ?_) hg, ?_, fun i hi => hi.imp id (fun h => h.1)⟩
 ·rw [hk1fs, look_put _ hr]
  by_cases e : t = s
  ·subst e
   rw [mputF_same, if_pos rfl]
   exact ⟨hc1, hc2, hc3, fun g hg => (hc4 g hg).1⟩
  ·rw [mputF_other _ _ e, if_neg e]
   have k2 : Keep (fun i => S i ∨ i = d ∨ i = bm) w w' := (hk.mono (fun _ h => Or.inl h)).trans (hk1.mono (fun _ h => Or.inr h))
   refine (ht t).keep k2 (fun c1 g h1 hg hSg => ?_) (fun _ h => Or.inl h)
   obtain ⟨_, o2, o3, _⟩ := hold t c1 g h1 hg
   rcases hSg with h | h | h
   ·obtain ⟨c0, h0, h01⟩ := hS g h
    exact ha t s c1 c0 g e h1 h0 hg h01
   ·exact o2 h
   ·exact o3 h
 ·by_cases et : t = s
  ·subst et
   rw [mputF_same] at h1
   cases h1
   rw [mputF_other _ _ (fun e => htu e.symm)] at h2
   exact (hc4 g hg1).2 u e2 (fun e => htu e.symm) h2 hg2
  ·rw [mputF_other _ _ et] at h1
   by_cases eu : u = s
   ·subst eu
    rw [mputF_same] at h2
    cases h2
    exact (hc4 g hg2).2 t e1 htu h1 hg1
   ·rw [mputF_other _ _ eu] at h2
    exact ha t u e1 e2 g htu h1 h2 hg1 hg2
 ·rcases hi with h | h
  ·exact Nat.lt_of_lt_of_le (lt i h) hsz
  ·exact h.2
 ·refine (hk.mono (fun i hi => ?_)).trans (hk1.mono (fun i hi => ?_))
  ·obtain ⟨c0, h0, h01⟩ := hS i hi
   exact (hold s c0 i h0 h01).1
  ·rcases hi with rfl | rfl
   ·exact fd
   ·exact hbm
theorem DiskAt.dropped {w w' : World} {F : Nat → Prop} {d bm n : Nat} {k k1 : Dk} {m : Nm → Option FV} {s : Nm}
  (hbm : F bm) (ht : ∀ t, Tie w F (m t) (look k.fs t)) (ha : Apart m) (fd : F d) (lt : ∀ i, F i → i < w.heap.size)
  (hbl : w.heap[d]? = some (.cells (rcs (rawK k) bm) 101 (0, 0))) (hmp : FMap w bm k.fs.length m)
  (hk1 : Keep (fun i => i = d ∨ i = bm) w w')
  (hD : DR w' d bm n (rawK k1) (mputF m s none)) (hk1fs : k1.fs = dropL k.fs s) (hg : k1.Good) :
  DiskAt w' F d k1 ∧ (∀ t, Tie w' F (mputF m s none t) (look k1.fs t)) ∧ Apart (mputF m s none) ∧ Keep F w w' := by
 have hT : ∀ t, Tie w' F (mputF m s none t) (look k1.fs t) := fun t => by
  rw [hk1fs, look_drop]
  by_cases e : t = s
  ·rw [if_pos e, e, mputF_same]; trivial
  ·rw [if_neg e, mputF_other _ _ e]
   refine (ht t).keep hk1 (fun c1 g h1 hg hSg => ?_) (fun _ h => h)
   have h2 := ht t
   rw [h1] at h2
   obtain ⟨cur, hb⟩ := h2.blk hg
   rcases hSg with rfl | rfl
   ·rw [hbl] at hb; cases hb
   ·exact hmp.notCells hb rfl
 have hA : Apart (mputF m s none) := fun t u e1 e2 g htu h1 h2 hg1 hg2 => by
  by_cases et : t = s
  ·rw [et, mputF_same] at h1; cases h1
  ·by_cases eu : u = s
   ·rw [eu, mputF_same] at h2; cases h2
   ·rw [mputF_other _ _ et] at h1; rw [mputF_other _ _ eu] at h2
    exact ha t u e1 e2 g htu h1 h2 hg1 hg2
 refine ⟨DiskAt.of hD hbm hT hA fd (fun i hi => Nat.lt_of_lt_of_le (lt i hi) hk1.size) hg, hT, hA, hk1.mono (fun i hi => ?_)⟩
 rcases hi with rfl | rfl
 ·exact fd
 ·exact hbm
theorem DiskAt.cells {w w' : World} {F : Nat → Prop} {d bm n : Nat} {k k1 : Dk} {m : Nm → Option FV}
  (hbm : F bm) (ht : ∀ t, Tie w F (m t) (look k.fs t)) (ha : Apart m) (fd : F d) (lt : ∀ i, F i → i < w.heap.size)
  (hbl : w.heap[d]? = some (.cells (rcs (rawK k) bm) 101 (0, 0)))
  (hk1 : Keep (fun i => i = d) w w') (hD : DR w' d bm n (rawK k1) m) (hk1fs : k1.fs = k.fs) (hg : k1.Good) :
  DiskAt w' F d k1 ∧ (∀ t, Tie w' F (m t) (look k1.fs t)) ∧ Keep F w w' := by
 have hT : ∀ t, Tie w' F (m t) (look k1.fs t) := fun t => by
  rw [hk1fs]
  refine (ht t).keep hk1 (fun c1 g h1 hg hSg => ?_) (fun _ h => h)
  have h2 := ht t
  rw [h1] at h2
  obtain ⟨cur, hb⟩ := h2.blk hg
  subst hSg
  rw [hbl] at hb; cases hb
 exact ⟨DiskAt.of hD hbm hT ha fd (fun i hi => Nat.lt_of_lt_of_le (lt i hi) hk1.size) hg, hT, hk1.mono (fun i hi => by subst hi; exact fd)⟩
end Go.Proofs.YtikkieaokfailaaGreatDoor

namespace Go.Proofs.YtikkieaokfailaaGreatDoor
open Go.RowKit Go.Joins
theorem Dp.next {w w1 w2 : World} {F F1 : Nat → Prop} {d : Nat} {k2 : Dk} (kp1 : Keep F w w1) (e1 : ∀ i, F1 i → F i ∨ w.heap.size ≤ i) (h : Dp w1 F1 d k2 w2) : Dp w F d k2 w2 := by
 obtain ⟨F2, h2, kp2, e2⟩ := h
 refine ⟨F2, h2, kp1.andThen kp2 (fun i hi hF => (e1 i hF).elim id (fun h => absurd h (by omega))), fun i hi => ?_⟩
 rcases e2 i hi with h | h
 ·exact e1 i h
 ·exact Or.inr (Nat.le_trans kp1.size h)
theorem good_put {k : Dk} (hg : k.Good) {s : Nm} (hs : isNm s = true) {f : Fle} (h1 : f.safe ≤ f.b.length) (h2 : Bd f.b) (hu : used (putL k.fs s f) ≤ k.room) : ({ k with fs := putL k.fs s f } : Dk).Good :=
 ⟨hg.room, rise_put hg.rise s f, hu, fun p hp => by
  rcases mem_put hp with rfl | hp
  ·exact ⟨hs, h1, h2⟩
  ·exact hg.each p hp, hg.fu⟩
theorem good_drop {k : Dk} (hg : k.Good) (s : Nm) : ({ k with fs := dropL k.fs s } : Dk).Good :=
 ⟨hg.room, rise_drop hg.rise s, by have := used_drop k.fs hg.rise s; have := hg.used; show used (dropL k.fs s) ≤ k.room; omega, fun p hp => hg.each p (mem_drop hp), hg.fu⟩
theorem good_pass {k : Dk} (hg : k.Good) : (passK k).2.Good := by
 unfold passK
 cases h : k.fu with
 | none => exact ⟨hg.room, hg.rise, hg.used, hg.each, fun n e => by simp at e⟩
 | some n =>
  have hn := hg.fu n h
  cases n with
  | zero => exact ⟨hg.room, hg.rise, hg.used, hg.each, fun n e => by simp at e; omega⟩
  | succ n => exact ⟨hg.room, hg.rise, hg.used, hg.each, fun n' e => by simp at e; omega⟩
theorem pass_fs (k : Dk) : (passK k).2.fs = k.fs := by
 unfold passK
 split <;> rfl
theorem pass_steps (k : Dk) : (passK k).2.steps ≤ k.steps + 1 := by
 unfold passK
 split <;> simp
theorem pass_R (w : World) (d bm n : Nat) (k : Dk) (m : Nm → Option FV) (hD : DR w d bm n (rawK k) m) (hg : k.Good) (on : k.off = false) (hs : k.steps < 1000000) :
  Calls Tryz.prog 53 #[.pointer (some ⟨d, 0, none⟩)] w fun e w' => Gv (passK k).1 e ∧ DR w' d bm n (rawK (passK k).2) m ∧ Keep (fun i => i = d) w w' := by
 cases hf : k.fu with
 | none =>
  have e : passK k = (0, { k with steps := k.steps + 1 }) := by unfold passK; rw [hf]
  rw [e]
  refine (pass_free w d bm _ _ m hD (by simp [rawK, hf]) (by simp [rawK]) (by simp [rawK]; omega)).mono ?_
  rintro e w' ⟨rfl, hD1, hk1⟩
  refine ⟨Or.inl ⟨rfl, rfl⟩, ?_, hk1⟩
  have : rawK { k with steps := k.steps + 1 } = { rawK k with steps := (rawK k).steps + 1 } := by simp [rawK]
  rw [this]
  exact hD1
 | some n =>
  cases n with
  | zero =>
   have e : passK k = (13, { k with off := true }) := by unfold passK; rw [hf]
   rw [e]
   refine (pass_no w d bm _ _ m hD (by simp [rawK, hf]) (by simp [rawK, hf])).mono ?_
   rintro e w' ⟨rfl, hD1, hk1⟩
   exact ⟨Or.inr ⟨by simp, rfl⟩, hD1, hk1⟩
  | succ n =>
   have e : passK k = (0, { k with steps := k.steps + 1, fu := some n }) := by unfold passK; rw [hf]
   have hn := hg.fu _ hf
   rw [e]
   refine (pass_yes w d bm _ _ m hD (by simp [rawK, hf]) (by simp [rawK, hf]) (by simp [rawK, hf]; omega) (by simp [rawK]) (by simp [rawK]; omega)).mono ?_
   rintro e w' ⟨rfl, hD1, hk1⟩
   refine ⟨Or.inl ⟨rfl, rfl⟩, ?_, hk1⟩
   have : rawK { k with steps := k.steps + 1, fu := some n } = { rawK k with down := false, left := (rawK k).left - 1, steps := (rawK k).steps + 1 } := by simp [rawK, hf, on]
   rw [this]
   exact hD1
theorem pass_D (w : World) (F : Nat → Prop) (d : Nat) (k : Dk) (h : DiskAt w F d k) (on : k.off = false) (hs : k.steps < 1000000) :
  Calls Tryz.prog 53 #[.pointer (some ⟨d, 0, none⟩)] w fun e w' => Gv (passK k).1 e ∧ Dp w F d (passK k).2 w' := by
 obtain ⟨⟨bm, m, hD, hbm, ht, ha⟩, fd, lt, hg⟩ := h
 refine (pass_R w d bm _ k m hD hg on hs).mono ?_
 rintro e w' ⟨h1, h2, h3⟩
 obtain ⟨x1, _, x3⟩ := DiskAt.cells hbm ht ha fd lt hD.blk h3 h2 (pass_fs k) (good_pass hg)
 exact ⟨h1, F, x1, x3, fun _ h => Or.inl h⟩
theorem Tie.old {w : World} {F : Nat → Prop} {o : Option FV} {f : Option Fle} (h : Tie w F o f) : ∃ g l c s, o.getD fv0 = (g, l, c, s) ∧ l = ((f.map Fle.b).getD []).length ∧ s = (((f.map Fle.safe).getD 0 : Nat) : Int) ∧ w.ownsRow 0 5 1 (slv (g, l, c, s)) l (bc ((f.map Fle.b).getD [])) ∧ (∀ x, g = some x → ∃ c0, o = some c0 ∧ c0.1 = some x) := by
 cases o <;> cases f
 ·exact ⟨none, 0, 0, 0, rfl, rfl, rfl, ⟨rfl, Or.inl ⟨rfl, rfl⟩⟩, fun x e => by cases e⟩
 ·exact h.elim
 ·exact h.elim
 ·rename_i c f
  obtain ⟨g, l, cp, s⟩ := c
  obtain ⟨h1, h2, h3, h4⟩ := h
  dsimp only at h1 h2
  subst h2
  exact ⟨g, _, cp, s, rfl, rfl, h1, h3, fun x e => ⟨_, rfl, e⟩⟩
theorem own_form {w : World} {B : Nat} {v : Value} {n : Nat} {xs : List Value} (h : w.ownsRow B 5 1 v n xs) : ∃ (a : Option Nat) (cp : Nat), v = .slice (a.map fun g => ⟨g, 0, none⟩) n cp ∧ v.ownBlock = a := by
 rcases h.2 with ⟨rfl, rfl⟩ | ⟨g, cap, cur, rfl, _⟩
 ·exact ⟨none, 0, rfl, rfl⟩
 ·exact ⟨some g, cap, rfl, rfl⟩
theorem own_formS {w : World} {B : Nat} {v : Value} {n : Nat} {xs : List Value} (h : w.ownsRow B 9 1 v n xs) : ∃ (a : Option Nat) (cp : Nat), v = .slice (a.map fun g => ⟨g, 0, none⟩) n cp ∧ v.ownBlock = a := by
 rcases h.2 with ⟨rfl, rfl⟩ | ⟨g, cap, cur, rfl, _⟩
 ·exact ⟨none, 0, rfl, rfl⟩
 ·exact ⟨some g, cap, rfl, rfl⟩
theorem app_name (bn bb bd : Nat) (s : Nm) (hs : isNm s = false) (W : World) (hn : W.heap[bn]? = some (.cells #[.string s] 9 (0, 0))) :
  Calls Tryz.prog 49 #[.pointer (some ⟨bn, 0, none⟩), .pointer (some ⟨bb, 0, none⟩), .pointer (some ⟨bd, 0, none⟩)] W fun e w' => e = .panicked (gaveUp 4) ∧ Below W.heap.size W w' := by
 have hN := fun w => isName_any s w
 rw [hs] at hN
 have q := box_cell hn
 clear hn
 go_enter Tryz.func49, Tryz.ntmps49
 go_wp2_with (first
  | (go_at_call 51; refine (hN _).mono ?_; rintro e w1 ⟨rfl, hb1⟩)
  | (go_at_call 50; refine (ask_no 4 _).mono ?_; rintro e w2 ⟨rfl, rfl⟩))
 exact ⟨rfl, rfl, hb1⟩
set_option maxRecDepth 100000 in
set_option maxHeartbeats 2000000 in
theorem app_full (bn bb bd d : Nat) (F : Nat → Prop) (k : Dk) (s : Nm) (hs : isNm s = true) (a : Option Addr) (n c : Nat) (hfit : ¬ (n + used k.fs ≤ k.room)) (hn9 : n ≤ 1000000000) (W : World) (hDk : DiskAt W F d k) (hn : W.heap[bn]? = some (.cells #[.string s] 9 (0, 0))) (hb : W.heap[bb]? = some (.cells #[.slice a n c] 29 (0, 0))) (hd : W.heap[bd]? = some (.cells #[.pointer (some ⟨d, 0, none⟩)] 36 (0, 0))) :
  Calls Tryz.prog 49 #[.pointer (some ⟨bn, 0, none⟩), .pointer (some ⟨bb, 0, none⟩), .pointer (some ⟨bd, 0, none⟩)] W fun e w' => e = .panicked (gaveUp 8) ∧ Below W.heap.size W w' := by
 have hN := fun w => isName_any s w
 rw [hs] at hN
 have q := box_cell hn
 have hgood := hDk.good
 have hroom := hgood.room
 have hused := hgood.used
 obtain ⟨⟨bm, m, hD, _, _, _⟩, _, _, _⟩ := hDk
 clear hn
 go_enter Tryz.func49, Tryz.ntmps49
 go_upto_region 1 with (first
  | (go_at_call 51; refine (hN _).mono ?_; rintro e w1 ⟨rfl, hb1⟩)
  | (go_at_call 50; refine (ask_ok _ _).mono ?_; rintro e w2 ⟨rfl, rfl⟩))
 have hD2 := hD.below hb1
 have q0 : w2.drew.cell? ⟨d, 0, none⟩ = some (.int .i64 (k.room : Int)) := hD2.c0
 have q2 : w2.drew.cell? ⟨d, 2, none⟩ = some (.int .i64 (used k.fs : Int)) := hD2.c2
 have qb0 : w2.cell? ⟨bb, 0, none⟩ = some (.slice a n c) := box_cell (box_below hb hb1)
 have qb : w2.drew.cell? ⟨bb, 0, none⟩ = some (.slice a n c) := qb0
 have qd0 : w2.cell? ⟨bd, 0, none⟩ = some (.pointer (some ⟨d, 0, none⟩)) := box_cell (box_below hd hb1)
 have qd : w2.drew.cell? ⟨bd, 0, none⟩ = some (.pointer (some ⟨d, 0, none⟩)) := qd0
 clear qb0 qd0
 have hbe : Below W.heap.size W w2.drew := hb1.drew
 have hw1 : IntKind.i64.wrap ((k.room : Int) - (used k.fs : Int)) = (k.room : Int) - (used k.fs : Int) := by rw [IntKind.wrap_i64]; omega
 have hlt : decide ((n : Int) ≤ (k.room : Int) - (used k.fs : Int)) = false := by simp; omega
 have hlen1 := fun w => len_slice a n c 29 3 w Tryz.underlying29
 clear hD hD2 hb hd hfit hN
 refine wp_region_lx (fun w' => w' = w2.drew) [] 13 (by kernel_rfl) (by kernel_rfl) ?_
 generalize w2.drew = X at *
 have HS0 : X = X := rfl
 refine lx_r 0 (.slice a n c) HS0 ?_ (hv := fun w' hS => by subst hS; first | (go_simp; rfl) | go_simp); simp only [lxa, lxb, lxc]
 refine lx_r 1 (.int .i64 n) HS0 ?_ (hv := fun w' hS => by subst hS; first | (go_simp; rfl) | go_simp); simp only [lxa, lxb, lxc]
 refine lx_r 2 (.pointer (some ⟨d, 0, none⟩)) HS0 ?_ (hv := fun w' hS => by subst hS; first | (go_simp; rfl) | go_simp); simp only [lxa, lxb, lxc]
 refine lx_r 3 _ HS0 ?_; simp only [lxa, lxb, lxc]
 refine lx_r 4 _ HS0 ?_; simp only [lxa, lxb, lxc]
 refine lx_r 5 (.int .i64 k.room) HS0 ?_ (hv := fun w' hS => by subst hS; first | (go_simp; rfl) | go_simp); simp only [lxa, lxb, lxc]
 refine lx_r 6 (.pointer (some ⟨d, 0, none⟩)) HS0 ?_ (hv := fun w' hS => by subst hS; first | (go_simp; rfl) | go_simp); simp only [lxa, lxb, lxc]
 refine lx_r 7 _ HS0 ?_; simp only [lxa, lxb, lxc]
 refine lx_r 8 _ HS0 ?_; simp only [lxa, lxb, lxc]
 refine lx_r 9 (.int .i64 (used k.fs)) HS0 ?_ (hv := fun w' hS => by subst hS; first | (go_simp; rfl) | go_simp); simp only [lxa, lxb, lxc]
 refine lx_r 10 (.int .i64 ((k.room : Int) - used k.fs)) HS0 ?_ (hv := fun w' hS => by subst hS; first | (go_simp; rfl) | go_simp); simp only [lxa, lxb, lxc]
 refine lx_r 11 (.bool false) HS0 ?_ (hv := fun w' hS => by subst hS; first | (go_simp; rfl) | go_simp); simp only [lxa, lxb, lxc]
 refine lx_one 12 (by kernel_rfl) (stepT_callP 50 ?aR5 rfl rfl rfl ?rR5 ?_)
 case rR5 => first | (go_simp; rfl) | go_simp
 refine (ask_no 8 _).mono ?_
 rintro e w3 ⟨rfl, rfl⟩
 exact Or.inr ⟨_, rfl, rfl, rfl, hbe⟩
set_option maxRecDepth 100000 in
set_option maxHeartbeats 4000000 in
theorem app_go (bn bb bd d : Nat) (F : Nat → Prop) (k : Dk) (on : k.off = false) (s : Nm) (hs : isNm s = true) (a : Option Addr) (n c : Nat) (ys : List Int) (hfit : n + used k.fs ≤ k.room) (hst : k.steps < 1000000) (hfl : k.fs.length < 1000000) (W : World) (hDk : DiskAt W F d k)
  (hn : W.heap[bn]? = some (.cells #[.string s] 9 (0, 0))) (hb : W.heap[bb]? = some (.cells #[.slice a n c] 29 (0, 0))) (hd : W.heap[bd]? = some (.cells #[.pointer (some ⟨d, 0, none⟩)] 36 (0, 0))) (hFn : ¬ F bn) (hFd : ¬ F bd) (hR : Rd W a n c ys) :
  Calls Tryz.prog 49 #[.pointer (some ⟨bn, 0, none⟩), .pointer (some ⟨bb, 0, none⟩), .pointer (some ⟨bd, 0, none⟩)] W fun e w' =>
   Gv (passK { k with fs := putL k.fs s ⟨((look k.fs s).map Fle.b).getD [] ++ ys, ((look k.fs s).map Fle.safe).getD 0⟩ }).1 e ∧ Dp W F d (passK { k with fs := putL k.fs s ⟨((look k.fs s).map Fle.b).getD [] ++ ys, ((look k.fs s).map Fle.safe).getD 0⟩ }).2 w' := by
 have hN := fun w => isName_any s w
 rw [hs] at hN
 have hmax : s.size ≤ maxLen := by have := isNm_size hs; unfold maxLen; omega
 have hsz64 := isNm_size hs
 have q := box_cell hn
 have hgood := hDk.good
 have hroom := hgood.room
 have hused := hgood.used
 have hlenO := lenO_used k.fs s
 have hput := used_put k.fs hgood.rise s ⟨((look k.fs s).map Fle.b).getD [] ++ ys, ((look k.fs s).map Fle.safe).getD 0⟩
 have hsafe : ((look k.fs s).map Fle.safe).getD 0 ≤ ((look k.fs s).map Fle.b |>.getD []).length ∧ Bd (((look k.fs s).map Fle.b).getD []) ∧ (((look k.fs s).map Fle.b).getD []).length = lenO (look k.fs s) := by
  cases hlk : look k.fs s with
  | none => exact ⟨Nat.le_refl _, Bd.nil, rfl⟩
  | some f => exact ⟨(look_good hgood hlk).2.1, (look_good hgood hlk).2.2, rfl⟩
 obtain ⟨hs1, hs2, hs3⟩ := hsafe
 obtain ⟨⟨bm, m, hD, hbm, ht, ha⟩, fd, lt, _⟩ := hDk
 obtain ⟨g0, l0, c0, s0, hold, hl0, hs0, hown, hblk⟩ := (ht s).old
 obtain ⟨xs, hxs⟩ : ∃ xs, ((look k.fs s).map Fle.b).getD [] = xs := ⟨_, rfl⟩
 obtain ⟨sf, hsf⟩ : ∃ sf, ((look k.fs s).map Fle.safe).getD 0 = sf := ⟨_, rfl⟩
 rw [hxs] at hput hs1 hs2 hs3 hl0 hown ⊢
 rw [hsf] at hput hs1 hs0 ⊢
 rw [List.length_append, hR.len] at hput
 have hn9 : n ≤ 1000000000 := by omega
 have hk1g : ({ k with fs := putL k.fs s ⟨xs ++ ys, sf⟩ } : Dk).Good := good_put hgood hs (by simp; omega) (hs2.append hR.bytes) (by omega)
 obtain ⟨P, HPe⟩ : ∃ P, Hid (passK { k with fs := putL k.fs s ⟨xs ++ ys, sf⟩ } = P) := ⟨_, rfl⟩
 rw [HPe.out]
 obtain ⟨en, k2⟩ := P
 dsimp only
 subst hs0
 obtain ⟨B, hB⟩ : ∃ B : Option Addr, (g0.map fun g => (⟨g, 0, none⟩ : Addr)) = B := ⟨_, rfl⟩
 have hslv : slv (g0, l0, c0, (sf : Int)) = .slice B l0 c0 := by unfold slv; rw [hB]
 have hfo : fv ((m s).getD fv0) = .agg #[.slice B l0 c0, .int .i64 sf] := by rw [hold]; unfold fv; rw [hslv]
 have hob : (Value.slice B l0 c0).ownBlock = g0 := by rw [← hslv, slv_own]
 rw [hslv] at hown
 have hg0 : ∀ x, g0 = some x → x < W.heap.size ∧ F x ∧ x ≠ bm ∧ x ≠ d := fun x e => by
  obtain ⟨cc, h1, h2⟩ := hblk x e
  have h3 := ht s
  rw [h1] at h3
  obtain ⟨cur, h4⟩ := h3.blk h2
  have hF : F x := by
   cases hf : look k.fs s with
   | none => rw [hf] at h3; exact h3.elim
   | some f => rw [hf] at h3; exact h3.2.2.2 x h2
  exact ⟨(Array.getElem?_eq_some_iff.1 h4).1, hF, hD.map.notCells h4, fun e => by subst e; rw [hD.blk] at h4; cases h4⟩
 have hw1 : IntKind.i64.wrap ((k.room : Int) - (used k.fs : Int)) = (k.room : Int) - (used k.fs : Int) := by rw [IntKind.wrap_i64]; omega
 have hlt : decide ((n : Int) ≤ (k.room : Int) - (used k.fs : Int)) = true := by simp; omega
 have hlen1 := fun w => len_slice a n c 29 3 w Tryz.underlying29
 have HL : Hid (l0 = xs.length) := hl0
 have HL3 : Hid (xs.length = lenO (look k.fs s)) := hs3
 have HP : Hid (used (putL k.fs s ⟨xs ++ ys, sf⟩) + lenO (look k.fs s) = used k.fs + (xs.length + n)) := hput
 have HO : Hid ((m s).getD fv0 = (g0, l0, c0, (sf : Int))) := hold
 have hl9 : l0 + n ≤ 1000000000 := by omega
 have HOB : Hid ((Value.slice B l0 c0).ownBlock = g0) := hob
 clear hxs hsf hB hl0 hs3 hput hold hs1 hslv hob
 go_enter Tryz.func49, Tryz.ntmps49
 go_upto_region 1 with (first
  | (go_at_call 51; refine (hN _).mono ?_; rintro e w1 ⟨rfl, hb1⟩)
  | (go_at_call 50; refine (ask_ok _ _).mono ?_; rintro e w2 ⟨rfl, rfl⟩))
 have hbe : Below W.heap.size W w2.drew := hb1.drew
 clear hb1 q hN
 refine wp_region_lx (fun w' => w' = w2.drew) [] 13 (by kernel_rfl) (by kernel_rfl) ?_
 generalize w2.drew = X at *
 have hDX := hD.below hbe
 have q0 : X.cell? ⟨d, 0, none⟩ = some (.int .i64 (k.room : Int)) := hDX.c0
 have q2 : X.cell? ⟨d, 2, none⟩ = some (.int .i64 (used k.fs : Int)) := hDX.c2
 have hbX := box_below hb hbe
 have hdX := box_below hd hbe
 have hnX := box_below hn hbe
 have qb := box_cell hbX
 have qd := box_cell hdX
 have HS0 : X = X := rfl
 refine lx_r 0 (.slice a n c) HS0 ?_ (hv := fun w' hS => by subst hS; first | (go_simp; rfl) | go_simp); simp only [lxa, lxb, lxc]
 refine lx_r 1 (.int .i64 n) HS0 ?_ (hv := fun w' hS => by subst hS; first | (go_simp; rfl) | go_simp); simp only [lxa, lxb, lxc]
 refine lx_r 2 (.pointer (some ⟨d, 0, none⟩)) HS0 ?_ (hv := fun w' hS => by subst hS; first | (go_simp; rfl) | go_simp); simp only [lxa, lxb, lxc]
 refine lx_r 3 _ HS0 ?_; simp only [lxa, lxb, lxc]
 refine lx_r 4 _ HS0 ?_; simp only [lxa, lxb, lxc]
 refine lx_r 5 (.int .i64 k.room) HS0 ?_ (hv := fun w' hS => by subst hS; first | (go_simp; rfl) | go_simp); simp only [lxa, lxb, lxc]
 refine lx_r 6 (.pointer (some ⟨d, 0, none⟩)) HS0 ?_ (hv := fun w' hS => by subst hS; first | (go_simp; rfl) | go_simp); simp only [lxa, lxb, lxc]
 refine lx_r 7 _ HS0 ?_; simp only [lxa, lxb, lxc]
 refine lx_r 8 _ HS0 ?_; simp only [lxa, lxb, lxc]
 refine lx_r 9 (.int .i64 (used k.fs)) HS0 ?_ (hv := fun w' hS => by subst hS; first | (go_simp; rfl) | go_simp); simp only [lxa, lxb, lxc]
 refine lx_r 10 (.int .i64 ((k.room : Int) - used k.fs)) HS0 ?_ (hv := fun w' hS => by subst hS; first | (go_simp; rfl) | go_simp); simp only [lxa, lxb, lxc]
 refine lx_r 11 (.bool true) HS0 ?_ (hv := fun w' hS => by subst hS; first | (go_simp; rfl) | go_simp); simp only [lxa, lxb, lxc]
 refine lx_one 12 (by kernel_rfl) (stepT_call 50 ?aR5 rfl rfl rfl ?rR5 ?_)
 case rR5 => first | (go_simp; rfl) | go_simp
 refine (ask_ok 8 _).mono ?_
 rintro e w3 ⟨rfl, rfl⟩
 refine ⟨_, rfl, fun _ => rfl, ?_⟩
 simp only [lxa, lxb, lxc]
 refine lx_nil (by kernel_rfl) ?_
 clear HS0 q0 q2 qb qd hw1 hlt hlen1
 go_upto_region 2 with fail
 have hbe2 : Below W.heap.size W w3.drew := hbe.drew
 have hD3 : DR w3.drew d bm k.fs.length (rawK k) m := hDX.keep (S := fun _ => False) (Keep.refl _ _).drew (fun h => h) (fun h => h)
 have hbX3 : w3.drew.heap[bb]? = some (.cells #[.slice a n c] 29 (0, 0)) := hbX
 have hdX3 : w3.drew.heap[bd]? = some (.cells #[.pointer (some ⟨d, 0, none⟩)] 36 (0, 0)) := hdX
 have hnX3 : w3.drew.heap[bn]? = some (.cells #[.string s] 9 (0, 0)) := hnX
 refine wp_region_lx (fun w' => Below w3.drew.heap.size w3.drew w') [] 8 (by kernel_rfl) (by kernel_rfl) ?_
 clear hDX hbX hdX hnX hbe
 generalize w3.drew = Y at *
 have hbY : ∀ w', Below Y.heap.size Y w' → DR w' d bm k.fs.length (rawK k) m ∧ w'.cell? ⟨bd, 0, none⟩ = some (.pointer (some ⟨d, 0, none⟩)) ∧ w'.cell? ⟨bn, 0, none⟩ = some (.string s) := fun w' hb' => ⟨hD3.below hb', box_cell (box_below hdX3 hb'), box_cell (box_below hnX3 hb')⟩
 have HS : Below Y.heap.size Y Y := Below.refl _ _
 refine lx_r 0 (.pointer (some ⟨d, 0, none⟩)) HS ?_ (hv := fun w' hS => by have q1 := (hbY _ hS).2.1; first | (go_simp; rfl) | go_simp); simp only [lxa, lxb, lxc]
 refine lx_r 1 _ HS ?_; simp only [lxa, lxb, lxc]
 refine lx_r 2 _ HS ?_; simp only [lxa, lxb, lxc]
 refine lx_r 3 (.map (some bm)) HS ?_ (hv := fun w' hS => by have q1 := (hbY _ hS).1.c1; first | (go_simp; rfl) | go_simp); simp only [lxa, lxb, lxc]
 refine lx_r 4 (.string s) HS ?_ (hv := fun w' hS => by have q1 := (hbY _ hS).2.2; first | (go_simp; rfl) | go_simp); simp only [lxa, lxb, lxc]
 refine lx_r 5 (.agg #[.slice B l0 c0, .int .i64 sf]) HS ?_ (hv := fun w' hS => by have q1 := (hbY _ hS).1.map.look1 s hmax; rw [hfo] at q1; first | (go_simp; rfl) | go_simp); simp only [lxa, lxb, lxc]
 refine lx_one 6 (by kernel_rfl) (stepT_val (w' := Y.alloc (.cells #[.slice none 0 0, .int .i64 0] 106)) (.pointer (some ⟨Y.heap.size, 0, none⟩)) rfl rfl rfl ?r6 (fun _ => (Below.refl _ _).alloc (Nat.le_refl _) _) ?_)
 case r6 => first | (go_simp; rfl) | go_simp
 simp only [lxa, lxb, lxc]
 refine lx_one 7 (by kernel_rfl) (stepT_store (w' := Y.alloc (.cells #[.slice B l0 c0, .int .i64 sf] 106)) rfl rfl rfl ?r7 (fun _ => (Below.refl _ _).alloc (Nat.le_refl _) _) ?_)
 case r7 => first | (go_simp; rfl) | go_simp
 refine lx_nil (by kernel_rfl) ?_
 have hbe4 : Below W.heap.size W (Y.alloc (.cells #[.slice B l0 c0, .int .i64 sf] 106)) := hbe2.alloc hbe2.size _
 have hfil := alloc_at Y (.cells #[.slice B l0 c0, .int .i64 sf] 106)
 have hYs := hbe2.size
 obtain ⟨bf, hbf⟩ : ∃ bf, Y.heap.size = bf := ⟨_, rfl⟩
 rw [hbf] at hfil hYs ⊢
 clear hbY HS hbX3 hdX3 hnX3 hD3 hbe2
 have hsz4 : (Y.alloc (.cells #[.slice B l0 c0, .int .i64 sf] 106)).heap.size = bf + 1 := by simp [hbf]
 clear hbf
 generalize Y.alloc (.cells #[.slice B l0 c0, .int .i64 sf] 106) = Z at *
 have hb4 := box_below hb hbe4
 have hd4 := box_below hd hbe4
 have hn4 := box_below hn hbe4
 have hD4 := hD.below hbe4
 have qb := box_cell hb4
 have f0 := cell_of_block hfil 0
 have f1 := cell_of_block hfil 1
 simp at f0 f1
 have hRZ : Rd Z a n c ys := hR.carry (Nat.le_refl _) hbe4
 have hownZ : Z.ownsRow 0 5 1 (.slice B l0 c0) l0 (bc xs) := own_keep (S := fun _ => False) hown (Keep.ofBelow hbe4) (fun _ _ h => h)
 go_upto_region 4 with (first
  | (at_builtin; (refine wp_appK rfl _ _ rfl 0 (.slice B l0 c0) l0 xs rfl hownZ a n c ys rfl hRZ hl9 (Nat.zero_le _) ?_; intro v' w5 hown5 hgr5 hwh5; obtain ⟨a5, cp5, rfl, hob5⟩ := own_form hown5; have hk5 := Keep.ofGrown hgr5; rw [HOB.out] at hk5 hwh5; rw [hob5] at hwh5; have hfil5 := box_keep hfil hk5 (fun e => by have := (hg0 _ e).1; omega); have e0 := cell_of_block hfil5 0; have e1 := cell_of_block hfil5 1; simp at e0 e1; have z0 := unfrozen_of_block hfil5 0)))
 have hkV : Keep (fun i => g0 = some i) W (w5.setCell ⟨bf, 0, none⟩ (.slice (a5.map fun g => ⟨g, 0, none⟩) (l0 + n) cp5)) := ((Keep.ofBelow hbe4).trans hk5).setNew (show W.heap.size ≤ bf from hYs) _
 have hfilV := block_setCell (i := 0) hfil5 (.slice (a5.map fun g => ⟨g, 0, none⟩) (l0 + n) cp5)
 have hZ5 := hk5.size
 have ha5 : ∀ g, a5 = some g → g ≠ bf ∧ g < w5.heap.size ∧ g ≠ d ∧ g ≠ bm := fun g e => by
  have hlt5 : g < w5.heap.size := by
   rcases hown5.2 with ⟨h1, _⟩ | ⟨g', cap, cur, h1, _, h2, _⟩
   ·rw [e] at h1; cases h1
   ·rw [e] at h1
    have h3 : (some (⟨g, 0, none⟩ : Addr)) = some ⟨g', 0, none⟩ := by injection h1
    have h4 : g = g' := by injection h3 with h3; injection h3
    subst h4
    exact (Array.getElem?_eq_some_iff.1 h2).1
  have h1 := hD.lt
  have h2 := hD.map.lt
  rcases hwh5 with h | h
  ·rw [e] at h
   obtain ⟨x1, _, x2, x3⟩ := hg0 g h.symm
   exact ⟨by omega, hlt5, x3, x2⟩
  ·rw [e] at h
   cases h
   exact ⟨by omega, hlt5, by omega, by omega⟩
 have hownV : (w5.setCell ⟨bf, 0, none⟩ (.slice (a5.map fun g => ⟨g, 0, none⟩) (l0 + n) cp5)).ownsRow 0 5 1 (.slice (a5.map fun g => ⟨g, 0, none⟩) (l0 + n) cp5) (l0 + n) (bc (xs ++ ys)) :=
  own_keep hown5 ((Keep.refl (fun i => i = bf) w5).setCell (p := ⟨bf, 0, none⟩) rfl _) (fun g hg e => by rw [hob5] at hg; exact (ha5 g hg).1 e)
 have hszV : w5.heap.size = (w5.setCell ⟨bf, 0, none⟩ (.slice (a5.map fun g => ⟨g, 0, none⟩) (l0 + n) cp5)).heap.size := by simp [World.setCell]
 clear hown5 hgr5 hfil5 e0 e1 z0 hbe4 hfil hb4 hd4 hn4 hD4 qb f0 f1 hRZ hownZ hk5
 generalize w5.setCell ⟨bf, 0, none⟩ (.slice (a5.map fun g => ⟨g, 0, none⟩) (l0 + n) cp5) = V at *
 have hdV := box_keep hd hkV (fun e => hFd (hg0 _ e).2.1)
 have hnV := box_keep hn hkV (fun e => hFn (hg0 _ e).2.1)
 have hDV := hD.keep hkV (fun e => (hg0 _ e).2.2.2 rfl) (fun e => (hg0 _ e).2.2.1 rfl)
 have p0 := cell_of_block hfilV 0
 have p1 := cell_of_block hfilV 1
 simp at p0 p1
 have pd := box_cell hdV
 have pn := box_cell hnV
 have hoL : ((m s).getD fv0).2.1 = l0 := by rw [HO.out]
 have hP := put_any d bm k.fs.length (rawK k) m s (by omega) hfl a5 (l0 + n) cp5 sf V hDV (by simp [rawK]) (by simp [rawK]; omega) hl9 (by rw [hoL]; omega)
 rw [hoL] at hP
 obtain ⟨A5, hA5⟩ : ∃ A : Option Addr, (a5.map fun g => (⟨g, 0, none⟩ : Addr)) = A := ⟨_, rfl⟩
 rw [hA5] at p0 hP
 clear hoL
 go_upto_region 5 with (first
  | (go_at_call 52; refine hP.mono ?_; rintro e w7 ⟨rfl, hD7, hk7⟩))
 have hraw : rawK { k with fs := putL k.fs s ⟨xs ++ ys, sf⟩ } = { rawK k with used := (rawK k).used + (((l0 + n : Nat) : Int) - (l0 : Int)) } := by
  have h1 := HP.out
  have h2 := HL.out
  have h3 := HL3.out
  unfold rawK
  congr 1
  show ((used (putL k.fs s ⟨xs ++ ys, sf⟩) : Nat) : Int) = (used k.fs : Int) + (((l0 + n : Nat) : Int) - (l0 : Int))
  omega
 rw [← hraw] at hD7
 have hXL : (xs ++ ys).length = l0 + n := by rw [List.length_append, ← HL.out, hR.len]
 have hDp : Dp W F d { k with fs := putL k.fs s ⟨xs ++ ys, sf⟩ } w7 := by
  refine DiskAt.put (S := fun i => g0 = some i) (c := (a5, l0 + n, cp5, (sf : Int))) (f := ⟨xs ++ ys, sf⟩) hbm ht ha fd lt hD.blk hD.map hkV (fun i hi => hblk i hi) hk7 hD7 rfl hgood.rise hk1g rfl hXL.symm ?_ (fun g hg => ?_)
  ·rw [hXL]
   refine own_keep (v := .slice (a5.map fun g => ⟨g, 0, none⟩) (l0 + n) cp5) hownV hk7 (fun g hg e => ?_)
   rw [hob5] at hg
   rcases e with e | e
   ·exact (ha5 g hg).2.2.1 e
   ·exact (ha5 g hg).2.2.2 e
  ·rcases hwh5 with h | h
   ·obtain ⟨cc, h1, h2⟩ := hblk g (h.symm.trans hg)
    obtain ⟨x1, x2⟩ := row_own ht ha h1 h2
    exact ⟨Or.inl x1, x2⟩
   ·have hg' : a5 = some g := hg
    have hgn : W.heap.size ≤ g := by rw [hg'] at h; cases h; omega
    refine ⟨Or.inr ⟨hgn, ?_⟩, fun t e _ he => row_new ht lt hgn t e he⟩
    have := (ha5 g hg).2.1; have := hk7.size; omega
 obtain ⟨F7, hD8, hk8, hF8⟩ := hDp
 have hd7 := box_cell (box_keep hd hk8 hFd)
 have hPs := pass_D w7 F7 d _ hD8 on hst
 clear hP hDV hraw p0 p1 pd pn hdV hnV hfilV hownV
 rw [HPe.out] at hPs
 dsimp only at hPs
 clear HPe HP HL HL3 HO
 by_cases h0 : en = 0
 ·subst h0
  have hc' := hPs.mono (fun e w' h => And.intro (h.1.elim (fun k => k.2) (fun k => absurd rfl k.1)) h.2 : ∀ e w', _ → (e = .returned (.tuple #[]) ∧ _))
  clear hPs
  go_wp2_with (first
   | (go_at_call 53; refine hc'.mono ?_; rintro e w9 ⟨rfl, hDp⟩))
  go_end0
  exact ⟨Or.inl ⟨rfl, rfl⟩, Dp.next hk8 hF8 hDp⟩
 ·have hc' := hPs.mono (fun e w' h => And.intro (h.1.elim (fun k => absurd k.1 h0) (fun k => k.2)) h.2 : ∀ e w', _ → (e = .panicked (gaveUp en) ∧ _))
  clear hPs
  go_wp2_with (first
   | (go_at_call 53; refine hc'.mono ?_; rintro e w9 ⟨rfl, hDp⟩))
  exact ⟨rfl, Or.inr ⟨h0, rfl⟩, Dp.next hk8 hF8 hDp⟩
end Go.Proofs.YtikkieaokfailaaGreatDoor

namespace Go.Proofs.YtikkieaokfailaaGreatDoor
open Go.RowKit Go.Joins
theorem attempt_D (d f : Nat) (caps : Array Value) (F : Nat → Prop) (k k' : Dk) (en : Nat) (w : World) (hent : ∀ args w, (callFunc f args).run Tryz.prog w = .ok (.enter f args) w) (hD : DiskAt w F d k) (on : k.off = false)
  (hC : DiskAt (w.alloc (.cells #[.int .i64 0] 37)) F d k → Below w.heap.size w (w.alloc (.cells #[.int .i64 0] 37)) → Calls Tryz.prog f caps (w.alloc (.cells #[.int .i64 0] 37)) fun e w' => Gv en e ∧ Dp (w.alloc (.cells #[.int .i64 0] 37)) F d k' w') :
  Calls Tryz.prog 48 #[.pointer (some ⟨d, 0, none⟩), .func (.func f) #[] caps] w fun e w' => e = .returned (.int .i64 en) ∧ Dp w F d k' w' := by
 have hb0 : Below w.heap.size w (w.alloc (.cells #[.int .i64 0] 37)) := (Below.refl _ _).alloc (Nat.le_refl _) _
 have hc4 : w.cell? ⟨d, 4, none⟩ = some (.bool false) := by
  obtain ⟨⟨bm, m, h, _⟩, _⟩ := hD
  rw [h.c4]
  simp [rawK, on]
 refine (attempt_go d f caps en (fun w' => Dp (w.alloc (.cells #[.int .i64 0] 37)) F d k' w') w hent hc4 ((hC (hD.below hb0) hb0).mono ?_)).mono ?_
 ·rintro e w' ⟨h1, h2⟩
  refine ⟨h1, h2, ?_⟩
  obtain ⟨F', _, hk, _⟩ := h2
  exact box_keep (alloc_at w _) hk (fun e => by have := hD.lt _ e; omega)
 ·rintro e w' ⟨rfl, w1, h1, rfl⟩
  exact ⟨rfl, h1.err hD.lt _⟩
theorem attempt_off (d f : Nat) (caps : Array Value) (F : Nat → Prop) (k : Dk) (w : World) (hD : DiskAt w F d k) (off : k.off = true) :
  Calls Tryz.prog 48 #[.pointer (some ⟨d, 0, none⟩), .func (.func f) #[] caps] w fun e w' => e = .returned (.int .i64 ((13 : Nat) : Int)) ∧ Dp w F d k w' := by
 refine (attempt_down d f caps w ?_).mono ?_
 ·obtain ⟨⟨bm, m, h, _⟩, _⟩ := hD
  rw [h.c4]
  simp [rawK, off]
 ·rintro e w' ⟨rfl, hb⟩
  exact ⟨rfl, Dp.ofBelow hD hb⟩
theorem gv_no {en : Nat} (h : en ≠ 0) {e : Ending} (he : e = .panicked (gaveUp en)) : Gv en e := Or.inr ⟨h, he⟩
theorem app_any (bn bb bd d : Nat) (F : Nat → Prop) (k : Dk) (on : k.off = false) (s : Nm) (a : Option Addr) (n c : Nat) (ys : List Int) (hst : k.steps < 1000000) (hfl : k.fs.length < 1000000) (hn9 : n ≤ 1000000000) (W : World) (hDk : DiskAt W F d k)
  (hn : W.heap[bn]? = some (.cells #[.string s] 9 (0, 0))) (hb : W.heap[bb]? = some (.cells #[.slice a n c] 29 (0, 0))) (hd : W.heap[bd]? = some (.cells #[.pointer (some ⟨d, 0, none⟩)] 36 (0, 0))) (hFn : ¬ F bn) (hFd : ¬ F bd) (hR : Rd W a n c ys) :
  Calls Tryz.prog 49 #[.pointer (some ⟨bn, 0, none⟩), .pointer (some ⟨bb, 0, none⟩), .pointer (some ⟨bd, 0, none⟩)] W fun e w' => Gv (appK k s ys).1 e ∧ Dp W F d (appK k s ys).2 w' := by
 unfold appK
 rw [if_neg (by rw [on]; decide), hR.len]
 by_cases h1 : isNm s = false
 ·rw [if_pos h1]
  refine (app_name bn bb bd s h1 W hn).mono ?_
  rintro e w' ⟨rfl, hbe⟩
  exact ⟨gv_no (by simp) rfl, Dp.ofBelow hDk hbe⟩
 ·rw [if_neg h1]
  have h1' : isNm s = true := by simpa using h1
  by_cases h2 : n + used k.fs ≤ k.room
  ·rw [if_neg (not_not_intro h2)]
   exact app_go bn bb bd d F k on s h1' a n c ys h2 hst hfl W hDk hn hb hd hFn hFd hR
  ·rw [if_pos h2]
   refine (app_full bn bb bd d F k s h1' a n c h2 hn9 W hDk hn hb hd).mono ?_
   rintro e w' ⟨rfl, hbe⟩
   exact ⟨gv_no (by simp) rfl, Dp.ofBelow hDk hbe⟩
theorem alloc2_at (w : World) (o p : Obj) : ((w.alloc o).alloc p).heap[w.heap.size]? = some o := (Below.heap_alloc _ _ _ (by simp)).trans (alloc_at w o)
theorem alloc3_at (w : World) (o p q : Obj) : (((w.alloc o).alloc p).alloc q).heap[w.heap.size]? = some o := (Below.heap_alloc _ _ _ (by simp; omega)).trans (alloc2_at w o p)
set_option maxHeartbeats 1000000 in
theorem append_any (d : Nat) (F : Nat → Prop) (k : Dk) (s : Nm) (a : Option Addr) (n c : Nat) (ys : List Int) (hst : k.steps < 1000000) (hfl : k.fs.length < 1000000) (hn9 : n ≤ 1000000000) (w : World) (hDk : DiskAt w F d k) (hR : Rd w a n c ys) :
  Calls Tryz.prog 16 #[.pointer (some ⟨d, 0, none⟩), .string s, .slice a n c] w fun e w' => e = .returned (.int .i64 (appK k s ys).1) ∧ Dp w F d (appK k s ys).2 w' := by
 have hmf : ∀ (fn : Fn) (first cap : Array Value) (w : World), (Instr.makeFunc fn first cap).run Tryz.prog w = .ok (.func fn first cap) w := fun _ _ _ _ => rfl
 obtain ⟨W, hW⟩ : ∃ W, ((w.alloc (.cells #[.pointer (some ⟨d, 0, none⟩)] 36)).alloc (.cells #[.string s] 9)).alloc (.cells #[.slice a n c] 29) = W := ⟨_, rfl⟩
 have hB : Below w.heap.size w W := by rw [← hW]; exact (((Below.refl _ _).alloc (Nat.le_refl _) _).alloc (by simp) _).alloc (by simp; omega) _
 have b0 : W.heap[w.heap.size]? = some (.cells #[.pointer (some ⟨d, 0, none⟩)] 36 (0, 0)) := by rw [← hW]; exact alloc3_at w _ _ _
 have b1 : W.heap[w.heap.size + 1]? = some (.cells #[.string s] 9 (0, 0)) := by rw [← hW]; exact (by simpa using alloc2_at (w.alloc (.cells #[.pointer (some ⟨d, 0, none⟩)] 36)) (.cells #[.string s] 9) (.cells #[.slice a n c] 29))
 have b2 : W.heap[w.heap.size + 1 + 1]? = some (.cells #[.slice a n c] 29 (0, 0)) := by rw [← hW]; exact (by simpa using alloc_at ((w.alloc (.cells #[.pointer (some ⟨d, 0, none⟩)] 36)).alloc (.cells #[.string s] 9)) (.cells #[.slice a n c] 29))
 have hDW := hDk.below hB
 have hRW := hR.carry (Nat.le_refl _) hB
 have hlt := hDk.lt
 have hA : Calls Tryz.prog 48 #[.pointer (some ⟨d, 0, none⟩), .func (.func 49) #[] #[.pointer (some ⟨w.heap.size + 1, 0, none⟩), .pointer (some ⟨w.heap.size + 1 + 1, 0, none⟩), .pointer (some ⟨w.heap.size, 0, none⟩)]] W fun e w' => e = .returned (.int .i64 (appK k s ys).1) ∧ Dp W F d (appK k s ys).2 w' := by
  cases on : k.off with
  | true =>
   have e : appK k s ys = (13, k) := by unfold appK; rw [on]; rfl
   rw [e]
   exact attempt_off d _ _ F k W hDW on
  | false =>
   refine attempt_D d _ _ F k _ _ W (enters_of Tryz.func49 (by kernel_rfl) rfl) hDW on (fun hD1 hb1 => ?_)
   exact app_any _ _ _ d F k on s a n c ys hst hfl hn9 _ hD1 (box_below b1 hb1) (box_below b2 hb1) (box_below b0 hb1) (fun h => by have := hlt _ h; omega) (fun h => by have := hlt _ h; omega) (hRW.carry (Nat.le_refl _) hb1)
 have c0 := box_cell b0
 clear hDW hRW
 obtain ⟨P, hP⟩ : ∃ P, appK k s ys = P := ⟨_, rfl⟩
 rw [hP] at hA ⊢
 clear hP
 go_enter Tryz.func16, Tryz.ntmps16
 go_upto_region 1 with fail
 clear hW
 go_wp2_with (first
  | (go_at_call 48; refine hA.mono ?_; rintro e w1 ⟨rfl, hDp⟩))
 go_ret
 exact ⟨rfl, Dp.from hB hDp⟩
end Go.Proofs.YtikkieaokfailaaGreatDoor

namespace Go.Proofs.YtikkieaokfailaaGreatDoor
open Go.RowKit Go.Joins
set_option maxRecDepth 100000 in
set_option maxHeartbeats 800000 in
theorem bcloneO (a : Option Addr) (n c : Nat) (xs : List Int) (w : World) (hR : Rd w a n c xs) (hn : n ≤ 1000000000) :
  Calls Tryz.prog 66 #[.slice a n c] w fun e w' => ∃ v, e = .returned v ∧ w'.ownsRow w.heap.size 5 1 v n (bc xs) ∧ Below w.heap.size w w' := by
 cases a with
 | none =>
  obtain ⟨rfl, rfl⟩ := rd_noneK hR rfl
  have hx : xs = [] := List.eq_nil_of_length_eq_zero hR.len
  subst hx
  have he : ∀ w : World, (binOp .eql 29 (.slice none 0 0) (.slice none 0 0)).run Tryz.prog w = .ok (.bool true) w := fun _ => rfl
  go_enter Tryz.func66, Tryz.ntmps66
  go_wp2
  go_ret
  exact ⟨_, rfl, ⟨rfl, Or.inl ⟨rfl, rfl⟩⟩, Below.refl _ _⟩
 | some ad =>
  have he : ∀ w : World, (binOp .eql 29 (.slice (some ad) n c) (.slice none 0 0)).run Tryz.prog w = .ok (.bool false) w := fun _ => rfl
  go_enter Tryz.func66, Tryz.ntmps66
  go_wp2_with (at_builtin; refine wp_app0K rfl _ _ rfl rfl (some ad) n c xs rfl hR hn ?_; rintro v' w1 hown hb ⟨g, cap, rfl⟩)
  go_ret
  exact ⟨_, rfl, hown, hb⟩
theorem min_int (x y : Int) (ty : TypeId) (w : World) : (Builtin.min_ #[3, 3] ty #[.int .i64 x, .int .i64 y]).run Tryz.prog w = .ok (.int .i64 (min x y)) w := by
 rw [run_min_int2]
 congr 2
 split <;> omega
set_option maxRecDepth 100000 in
set_option maxHeartbeats 2000000 in
theorem fcut_any (A : Option Addr) (ln cp : Nat) (xs : List Int) (sf k : Nat) (w : World) (hR : Rd w A ln cp xs) (hk : k ≤ ln) (hl : ln ≤ 1000000000) :
  Calls Tryz.prog 70 #[.agg #[.slice A ln cp, .int .i64 sf], .int .i64 k] w fun e w' => ∃ (a5 : Option Nat) (cp5 : Nat), e = .returned (.agg #[.slice (a5.map fun g => ⟨g, 0, none⟩) k cp5, .int .i64 ((min sf k : Nat) : Int)]) ∧ w'.ownsRow w.heap.size 5 1 (.slice (a5.map fun g => ⟨g, 0, none⟩) k cp5) k (bc (xs.take k)) ∧ Below w.heap.size w w' := by
 have hc := hR.cap
 have hcm := hR.most
 go_enter Tryz.func70, Tryz.ntmps70
 go_upto_region 1 with fail
 have hbe : Below w.heap.size w ((w.alloc (.cells #[.slice A ln cp, .int .i64 sf] 106)).alloc (.cells #[.slice none 0 0, .int .i64 0] 106)) := ((Below.refl _ _).alloc (Nat.le_refl _) _).alloc (by simp) _
 have hb0 := alloc2_at w (.cells #[.slice A ln cp, .int .i64 sf] 106) (.cells #[.slice none 0 0, .int .i64 0] 106)
 have hb1 := alloc_at (w.alloc (.cells #[.slice A ln cp, .int .i64 sf] 106)) (.cells #[.slice none 0 0, .int .i64 0] 106)
 have hsz1 : (w.alloc (.cells #[.slice A ln cp, .int .i64 sf] 106)).heap.size = w.heap.size + 1 := by simp
 rw [hsz1] at hb1
 clear hsz1
 generalize (w.alloc (.cells #[.slice A ln cp, .int .i64 sf] 106)).alloc (.cells #[.slice none 0 0, .int .i64 0] 106) = W0 at *
 refine wp_region_lx (fun w' => Below W0.drew.heap.size W0.drew w') [10] 11 (by kernel_rfl) (by kernel_rfl) ?_
 have hbe1 : Below w.heap.size w W0.drew := hbe.drew
 have hb01 : W0.drew.heap[w.heap.size]? = some (.cells #[.slice A ln cp, .int .i64 sf] 106 (0, 0)) := hb0
 have hb11 : W0.drew.heap[w.heap.size + 1]? = some (.cells #[.slice none 0 0, .int .i64 0] 106 (0, 0)) := hb1
 clear hbe hb0 hb1
 generalize W0.drew = W at *
 obtain ⟨b, hb⟩ : ∃ b, w.heap.size = b := ⟨_, rfl⟩
 rw [hb] at hb01 hb11 ⊢
 have hbY : ∀ w', Below W.heap.size W w' → w'.cell? ⟨b, 0, none⟩ = some (.slice A ln cp) ∧ w'.cell? ⟨b, 1, none⟩ = some (.int .i64 sf) := fun w' hb' => by
  have h := box_below hb01 hb'
  exact ⟨by rw [cell_of_block h]; rfl, by rw [cell_of_block h]; rfl⟩
 have HS : Below W.heap.size W W := Below.refl _ _
 have hmin := min_int (sf : Int) (k : Int) 3
 have hk1 : (k : Int) ≤ (cp : Int) := by omega
 have hk0 : (0 : Int) ≤ (k : Int) := by omega
 have hmm : min (sf : Int) (k : Int) = ((min sf k : Nat) : Int) := by omega
 refine lx_r 0 _ HS ?_; simp only [lxa, lxb, lxc]
 refine lx_r 1 (.slice A ln cp) HS ?_ (hv := fun w' hS => by have q1 := (hbY _ hS).1; first | (go_simp; rfl) | go_simp); simp only [lxa, lxb, lxc]
 refine lx_r 2 _ HS ?_; simp only [lxa, lxb, lxc]
 refine lx_r 3 (.slice A k cp) HS ?_; simp only [lxa, lxb, lxc]
 refine lx_r 5 _ HS ?_; simp only [lxa, lxb, lxc]
 refine lx_r 6 (.int .i64 sf) HS ?_ (hv := fun w' hS => by have q1 := (hbY _ hS).2; first | (go_simp; rfl) | go_simp); simp only [lxa, lxb, lxc]
 refine lx_r 7 _ HS ?_; simp only [lxa, lxb, lxc]
 refine lx_r 8 (.int .i64 ((min sf k : Nat) : Int)) HS ?_; simp only [lxa, lxb, lxc]
 have hRW : Rd W A k cp (xs.take k) := (hR.carry (Nat.le_refl _) hbe1).takeK hk
 refine lx_one 4 (by kernel_rfl) (stepT_call 66 ?aR5 rfl rfl rfl ?rR5 ?_)
 case rR5 => first | (go_simp; rfl) | go_simp
 refine (bcloneO A k cp (xs.take k) W hRW (by omega)).mono ?_
 rintro e w2 ⟨v, rfl, hown, hb2⟩
 refine ⟨_, rfl, fun _ => hb2, ?_⟩
 simp only [lxa, lxb, lxc]
 obtain ⟨a5, cp5, rfl, hob5⟩ := own_form hown
 obtain ⟨A5, hA5⟩ : ∃ A5 : Option Addr, (a5.map fun g => (⟨g, 0, none⟩ : Addr)) = A5 := ⟨_, rfl⟩
 have hown' := hown
 rw [hA5]
 refine lx_one 9 (by kernel_rfl) (stepT_val (w' := w2) (.agg #[.slice A5 k cp5, .int .i64 ((min sf k : Nat) : Int)]) rfl rfl rfl ?r9 (fun _ => hb2) ?_)
 case r9 => first | (go_simp; rfl) | go_simp
 simp only [lxa, lxb, lxc]
 have rb := box_below hb11 hb2
 have rb1 := block_setCell (i := 0) rb (.slice A5 k cp5)
 have c0 := cell_of_block rb 0
 have z0 := unfrozen_of_block rb 0
 have c1 := cell_of_block rb1 1
 have z1 := unfrozen_of_block rb1 1
 have rb2 := block_setCell (i := 1) rb1 (.int .i64 ((min sf k : Nat) : Int))
 have d0 := cell_of_block rb2 0
 have d1 := cell_of_block rb2 1
 simp at c0 c1 d0 d1
 refine lx_one 10 (by kernel_rfl) (stepT_store (w' := (w2.setCell ⟨b + 1, 0, none⟩ (.slice A5 k cp5)).setCell ⟨b + 1, 1, none⟩ (.int .i64 ((min sf k : Nat) : Int))) rfl rfl rfl ?r10 (fun h => by cases h) ?_)
 case r10 => first | (go_simp; rfl) | go_simp
 refine lx_nil (by kernel_rfl) ?_
 have hb3 : Below w.heap.size w w2 := hbe1.trans (hb2.mono hbe1.size)
 have hbs : b + 1 < W.heap.size := (Array.getElem?_eq_some_iff.1 hb11).1
 have hk3 : Keep (fun i => i = b + 1) w2 ((w2.setCell ⟨b + 1, 0, none⟩ (.slice A5 k cp5)).setCell ⟨b + 1, 1, none⟩ (.int .i64 ((min sf k : Nat) : Int))) := ((Keep.refl (fun i => i = b + 1) w2).setCell (p := ⟨b + 1, 0, none⟩) rfl _).setCell (p := ⟨b + 1, 1, none⟩) rfl _
 have hown3 := own_keep hown' hk3 (fun g hg e => by
  have := (hown'.lt g hg).1
  omega)
 have hb4 : Below w.heap.size w ((w2.setCell ⟨b + 1, 0, none⟩ (.slice A5 k cp5)).setCell ⟨b + 1, 1, none⟩ (.int .i64 ((min sf k : Nat) : Int))) := (hb3.setCell (p := ⟨b + 1, 0, none⟩) (show w.heap.size ≤ b + 1 by omega) _).setCell (p := ⟨b + 1, 1, none⟩) (show w.heap.size ≤ b + 1 by omega) _
 generalize (w2.setCell ⟨b + 1, 0, none⟩ (.slice A5 k cp5)).setCell ⟨b + 1, 1, none⟩ (.int .i64 ((min sf k : Nat) : Int)) = w4 at *
 clear c0 c1 z0 z1 rb rb1 hb01 hb11 hbY
 go_wp2
 refine bodyPost_ret (v := .agg #[.slice A5 k cp5, .int .i64 ((min sf k : Nat) : Int)]) (by simp [results, Tryz.results70, go_sem, d0, d1]) rfl ⟨a5, cp5, by rw [hA5], own_weak hown3 hbe1.size, hb4⟩
end Go.Proofs.YtikkieaokfailaaGreatDoor

namespace Go.Proofs.YtikkieaokfailaaGreatDoor
open Go.RowKit Go.Joins
theorem find_bad (d : Nat) (F : Nat → Prop) (k : Dk) (s : Nm) (W : World) (hDk : DiskAt W F d k) (en : Nat) (h : (isNm s = false ∧ en = 4) ∨ (isNm s = true ∧ look k.fs s = none ∧ en = 7)) :
  Calls Tryz.prog 89 #[.pointer (some ⟨d, 0, none⟩), .string s] W fun e w' => e = .panicked (gaveUp en) ∧ Below W.heap.size W w' := by
 rcases h with ⟨h1, rfl⟩ | ⟨h1, h2, rfl⟩
 ·exact find_name d s h1 W
 ·obtain ⟨⟨bm, m, hD, hbm, ht, ha⟩, fd, lt, _⟩ := hDk
  have := ht s
  rw [h2] at this
  exact find_none d bm _ _ m s h1 this.none' W hD
theorem stepK_cases (k : Dk) (on : k.off = false) (s : Nm) (err : Fle → Nat) (go : Dk → Fle → Dk) :
  (∃ en, ((isNm s = false ∧ en = 4) ∨ (isNm s = true ∧ look k.fs s = none ∧ en = 7)) ∧ en ≠ 0 ∧ stepK k s err go = (en, k)) ∨
  (∃ f, isNm s = true ∧ look k.fs s = some f ∧ stepK k s err go = if err f ≠ 0 then (err f, k) else if (passK k).1 ≠ 0 then passK k else (0, go (passK k).2 f)) := by
 unfold stepK
 rw [if_neg (by rw [on]; decide)]
 by_cases h1 : isNm s = false
 ·exact Or.inl ⟨4, Or.inl ⟨h1, rfl⟩, by decide, by rw [if_pos h1]⟩
 ·have h1' : isNm s = true := by simpa using h1
  rw [if_neg h1]
  cases h2 : look k.fs s with
  | none => exact Or.inl ⟨7, Or.inr ⟨h1', rfl, rfl⟩, by decide, rfl⟩
  | some f => exact Or.inr ⟨f, h1', rfl, rfl⟩
theorem sync_bad (bd bn d : Nat) (s : Nm) (en : Nat) (W : World) (hd : W.heap[bd]? = some (.cells #[.pointer (some ⟨d, 0, none⟩)] 36 (0, 0))) (hn : W.heap[bn]? = some (.cells #[.string s] 9 (0, 0)))
  (hF : Calls Tryz.prog 89 #[.pointer (some ⟨d, 0, none⟩), .string s] W fun e w' => e = .panicked (gaveUp en) ∧ Below W.heap.size W w') :
  Calls Tryz.prog 160 #[.pointer (some ⟨bd, 0, none⟩), .pointer (some ⟨bn, 0, none⟩)] W fun e w' => e = .panicked (gaveUp en) ∧ Below W.heap.size W w' := by
 have q := box_cell hn
 have q1 := box_cell hd
 clear hn hd
 go_enter Tryz.func160, Tryz.ntmps160
 go_wp2_with (first
  | (go_at_call 89; refine hF.mono ?_; rintro e w1 ⟨rfl, hb1⟩))
 exact ⟨rfl, rfl, hb1⟩
theorem gv_split {P : Program} {f : Nat} {args : Array Value} {w : World} {en : Nat} {R : World → Prop} (h : Calls P f args w fun e w' => Gv en e ∧ R w') :
  (en = 0 ∧ Calls P f args w fun e w' => e = .returned (.tuple #[]) ∧ R w') ∨ (en ≠ 0 ∧ Calls P f args w fun e w' => e = .panicked (gaveUp en) ∧ R w') := by
 by_cases h0 : en = 0
 ·exact Or.inl ⟨h0, h.mono (fun e w' h => ⟨h.1.elim (fun k => k.2) (fun k => absurd h0 k.1), h.2⟩)⟩
 ·exact Or.inr ⟨h0, h.mono (fun e w' h => ⟨h.1.elim (fun k => absurd k.1 h0) (fun k => k.2), h.2⟩)⟩
set_option maxRecDepth 100000 in
set_option maxHeartbeats 4000000 in
theorem sync_go (bd bn d : Nat) (F : Nat → Prop) (k : Dk) (on : k.off = false) (s : Nm) (hs : isNm s = true) (f : Fle) (hlk : look k.fs s = some f) (hst : k.steps < 1000000) (hfl : k.fs.length < 1000000) (W : World) (hDk : DiskAt W F d k)
  (hn : W.heap[bn]? = some (.cells #[.string s] 9 (0, 0))) (hd : W.heap[bd]? = some (.cells #[.pointer (some ⟨d, 0, none⟩)] 36 (0, 0))) (hFn : ¬ F bn) (hFd : ¬ F bd) :
  Calls Tryz.prog 160 #[.pointer (some ⟨bd, 0, none⟩), .pointer (some ⟨bn, 0, none⟩)] W fun e w' =>
   (((passK k).1 ≠ 0 ∧ e = .panicked (gaveUp (passK k).1) ∧ Dp W F d (passK k).2 w') ∨ ((passK k).1 = 0 ∧ e = .returned (.tuple #[]) ∧ Dp W F d { (passK k).2 with fs := putL (passK k).2.fs s ⟨f.b, f.b.length⟩ } w')) := by
 have hsz64 := isNm_size hs
 have q := box_cell hn
 have q1 := box_cell hd
 have hgood := hDk.good
 have hroom := hgood.room
 have hused := hgood.used
 have hlenO := lenO_used k.fs s
 obtain ⟨_, hsf1, hbd⟩ := look_good hgood hlk
 obtain ⟨⟨bm, m, hD, hbm, ht, ha⟩, fd, lt, _⟩ := hDk
 have htie := ht s
 rw [hlk] at htie
 obtain ⟨⟨a, ln, cp, sf⟩, hm, h1, h2, hown, hFr⟩ := htie.some'
 dsimp only at h1 h2
 subst h1
 subst h2
 rw [hlk] at hlenO
 have hfl2 : f.b.length ≤ used k.fs := hlenO
 have hfind := find_ok d bm _ _ m s hs a _ cp _ hm W hD
 have hP := fun w' hDR => pass_R w' d bm k.fs.length k m hDR hgood on hst
 have hpfs := pass_fs k
 have hpg := good_pass hgood
 obtain ⟨P, HPe⟩ : ∃ P, Hid (passK k = P) := ⟨_, rfl⟩
 rw [HPe.out] at hP hpfs hpg ⊢
 obtain ⟨en, k2⟩ := P
 dsimp only at hP hpfs hpg ⊢
 obtain ⟨A, hA⟩ : ∃ A : Option Addr, (a.map fun g => (⟨g, 0, none⟩ : Addr)) = A := ⟨_, rfl⟩
 obtain ⟨ln, hln⟩ : ∃ ln, f.b.length = ln := ⟨_, rfl⟩
 have HLN : Hid (f.b.length = ln) := hln
 rw [hln] at hfind hown hsf1 hfl2 hm
 rw [hA] at hfind
 clear hln HPe
 have hlen1 := fun w => len_slice A ln cp 29 3 w Tryz.underlying29
 go_enter Tryz.func160, Tryz.ntmps160
 go_upto_region 1 with (first
  | (go_at_call 89; refine hfind.mono ?_; rintro e w1 ⟨rfl, hb1⟩))
 have hbe : Below W.heap.size W (w1.alloc (.cells #[.slice A ln cp, .int .i64 (f.safe : Int)] 106)) := hb1.alloc hb1.size _
 have hfil := alloc_at w1 (.cells #[.slice A ln cp, .int .i64 (f.safe : Int)] 106)
 have hws := hb1.size
 obtain ⟨bf, hbf⟩ : ∃ bf, w1.heap.size = bf := ⟨_, rfl⟩
 rw [hbf] at hfil hws ⊢
 clear hbf hb1 hfind
 generalize w1.alloc (.cells #[.slice A ln cp, .int .i64 (f.safe : Int)] 106) = Z at *
 have hDZ := hD.below hbe
 have htZ : ∀ t, Tie Z F (m t) (look k.fs t) := fun t => (ht t).keep (S := fun _ => False) (Keep.ofBelow hbe) (fun _ _ _ _ h => h) (fun _ h => h)
 have ltZ : ∀ i, F i → i < Z.heap.size := fun i hi => Nat.lt_of_lt_of_le (lt i hi) hbe.size
 have hdZ := box_below hd hbe
 have hnZ := box_below hn hbe
 have p1 := box_cell hdZ
 have hdl := hD.lt
 rcases gv_split (hP Z hDZ) with ⟨h0, hc'⟩ | ⟨h0, hc'⟩
 ·go_upto_region 2 with (first
   | (go_at_call 53; refine hc'.mono ?_; rintro e w3 ⟨rfl, hD3, hk3⟩))
  obtain ⟨x1, x2, x3⟩ := DiskAt.cells hbm htZ ha fd ltZ hDZ.blk hk3 hD3 hpfs hpg
  have hd3 := box_cell (box_keep hdZ x3 hFd)
  have hn3 := box_cell (box_keep hnZ x3 hFn)
  have hfil3 := box_keep hfil hk3 (show ¬ bf = d by omega)
  have f0 := cell_of_block hfil3 0
  simp at f0
  have hoL : ((m s).getD fv0).2.1 = ln := by rw [hm]; rfl
  have hPt := put_any d bm k.fs.length (rawK k2) m s (by omega) hfl a ln cp ln w3 hD3 (by simp [rawK]) (by simp [rawK, hpfs]; omega) (by omega) (by rw [hoL]; omega)
  rw [hoL, hA] at hPt
  clear hoL hc' hP hfil3 hlenO
  go_wp2_with (first
   | (go_at_call 52; refine hPt.mono ?_; rintro e w7 ⟨rfl, hD7, hk7⟩))
  go_end0
  refine Or.inr ⟨h0, rfl, ?_⟩
  rw [hpfs, HLN.out]
  have hup := used_put k.fs hgood.rise s ⟨f.b, ln⟩
  rw [hlk] at hup
  have hup2 : used (putL k.fs s ⟨f.b, ln⟩) = used k.fs := by
   have : lenO (some f) = f.b.length := rfl
   rw [this] at hup
   exact Nat.add_right_cancel hup
  have hraw : rawK { k2 with fs := putL k.fs s ⟨f.b, ln⟩ } = { rawK k2 with used := (rawK k2).used + ((ln : Int) - (ln : Int)) } := by
   unfold rawK
   dsimp only
   rw [hup2, hpfs]
   simp
  rw [← hraw] at hD7
  have hkg : ({ k2 with fs := putL k2.fs s ⟨f.b, ln⟩ } : Dk).Good := good_put hpg hs (by rw [← HLN.out]; exact Nat.le_refl _) hbd (by rw [hpfs, hup2, ← hpfs]; exact hpg.used)
  rw [hpfs] at hkg
  refine Dp.from hbe (Dp.next x3 (fun i hi => Or.inl hi) ?_)
  have hbl3 : FMap w3 bm k2.fs.length m := by rw [hpfs]; exact hD3.map
  have own3 : w3.ownsRow 0 5 1 (slv (a, ln, cp, (ln : Int))) ln (bc f.b) := by
   have := (x2 s)
   rw [hpfs, hlk, hm] at this
   have h := this.2.2.1
   rw [HLN.out] at h
   exact h
  have hrow := fun g (hg : (a, ln, cp, (f.safe : Int)).1 = some g) => row_own x2 ha (s := s) hm hg
  refine DiskAt.put (k := k2) (S := fun _ => False) (c := (a, ln, cp, (ln : Int))) (f := ⟨f.b, ln⟩) hbm x2 ha fd x1.lt hD3.blk hbl3 (Keep.refl _ _) (fun i hi => hi.elim) hk7 hD7 (by rw [hpfs]) (by rw [hpfs]; exact hgood.rise) hkg rfl (by rw [HLN.out]) ?_ (fun g hg => ?_)
  ·show w7.ownsRow 0 5 1 (slv (a, ln, cp, (ln : Int))) f.b.length (bc f.b)
   rw [HLN.out]
   refine own_keep own3 hk7 (fun g hg e => ?_)
   rw [slv_own] at hg
   have h3 := x2 s
   rw [hm] at h3
   obtain ⟨cur, h4⟩ := h3.blk hg
   rcases e with rfl | rfl
   ·rw [hD3.blk] at h4; cases h4
   ·exact hD3.map.notCells h4 rfl
  ·exact ⟨Or.inl (hrow g hg).1, (hrow g hg).2⟩
 ·clear hP
  go_wp2_with (first
   | (go_at_call 53; refine hc'.mono ?_; rintro e w3 ⟨rfl, hD3, hk3⟩))
  obtain ⟨x1, _, x3⟩ := DiskAt.cells hbm htZ ha fd ltZ hDZ.blk hk3 hD3 hpfs hpg
  exact ⟨rfl, Or.inl ⟨h0, rfl, Dp.from hbe ⟨F, x1, x3, fun _ h => Or.inl h⟩⟩⟩
set_option maxHeartbeats 1000000 in
theorem sync_any (d : Nat) (F : Nat → Prop) (k : Dk) (s : Nm) (hst : k.steps < 1000000) (hfl : k.fs.length < 1000000) (w : World) (hDk : DiskAt w F d k) :
  Calls Tryz.prog 142 #[.pointer (some ⟨d, 0, none⟩), .string s] w fun e w' => e = .returned (.int .i64 (syncK k s).1) ∧ Dp w F d (syncK k s).2 w' := by
 have hmf : ∀ (fn : Fn) (first cap : Array Value) (w : World), (Instr.makeFunc fn first cap).run Tryz.prog w = .ok (.func fn first cap) w := fun _ _ _ _ => rfl
 obtain ⟨W, hW⟩ : ∃ W, (w.alloc (.cells #[.pointer (some ⟨d, 0, none⟩)] 36)).alloc (.cells #[.string s] 9) = W := ⟨_, rfl⟩
 have hB : Below w.heap.size w W := by rw [← hW]; exact ((Below.refl _ _).alloc (Nat.le_refl _) _).alloc (by simp) _
 have b0 : W.heap[w.heap.size]? = some (.cells #[.pointer (some ⟨d, 0, none⟩)] 36 (0, 0)) := by rw [← hW]; exact alloc2_at w _ _
 have b1 : W.heap[w.heap.size + 1]? = some (.cells #[.string s] 9 (0, 0)) := by rw [← hW]; exact (by simpa using alloc_at (w.alloc (.cells #[.pointer (some ⟨d, 0, none⟩)] 36)) (.cells #[.string s] 9))
 have hDW := hDk.below hB
 have hlt := hDk.lt
 have hA : Calls Tryz.prog 48 #[.pointer (some ⟨d, 0, none⟩), .func (.func 160) #[] #[.pointer (some ⟨w.heap.size, 0, none⟩), .pointer (some ⟨w.heap.size + 1, 0, none⟩)]] W fun e w' => e = .returned (.int .i64 (syncK k s).1) ∧ Dp W F d (syncK k s).2 w' := by
  cases on : k.off with
  | true =>
   have e : syncK k s = (13, k) := by unfold syncK stepK; rw [on]; rfl
   rw [e]
   exact attempt_off d _ _ F k W hDW on
  | false =>
   refine attempt_D d _ _ F k _ _ W (enters_of Tryz.func160 (by kernel_rfl) rfl) hDW on (fun hD1 hb1 => ?_)
   have g0 := box_below b0 hb1
   have g1 := box_below b1 hb1
   generalize W.alloc (.cells #[.int .i64 0] 37) = V at *
   unfold syncK
   rcases stepK_cases k on s (fun _ => 0) (fun k f => { k with fs := putL k.fs s ⟨f.b, f.b.length⟩ }) with ⟨en, hen, hne, e⟩ | ⟨f, hs, hlk, e⟩
   ·rw [e]
    refine (sync_bad _ _ d s en _ g0 g1 (find_bad d F k s _ hD1 en hen)).mono ?_
    rintro e w' ⟨rfl, hbe⟩
    exact ⟨gv_no hne rfl, Dp.ofBelow hD1 hbe⟩
   ·rw [e, if_neg (by simp)]
    refine (sync_go _ _ d F k on s hs f hlk hst hfl _ hD1 g1 g0 (fun h => by have := hlt _ h; omega) (fun h => by have := hlt _ h; omega)).mono ?_
    rintro e w' (⟨h0, rfl, hDp⟩ | ⟨h0, rfl, hDp⟩)
    ·rw [if_pos h0]
     exact ⟨gv_no h0 rfl, hDp⟩
    ·rw [if_neg (by simp [h0])]
     exact ⟨Or.inl ⟨rfl, rfl⟩, hDp⟩
 have c0 := box_cell b0
 clear hDW
 obtain ⟨P, hP⟩ : ∃ P, syncK k s = P := ⟨_, rfl⟩
 rw [hP] at hA ⊢
 clear hP
 go_enter Tryz.func142, Tryz.ntmps142
 go_upto_region 1 with fail
 clear hW
 go_wp2_with (first
  | (go_at_call 48; refine hA.mono ?_; rintro e w1 ⟨rfl, hDp⟩))
 go_ret
 exact ⟨rfl, Dp.from hB hDp⟩
end Go.Proofs.YtikkieaokfailaaGreatDoor
