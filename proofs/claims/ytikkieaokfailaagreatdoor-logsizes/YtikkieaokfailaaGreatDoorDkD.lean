/- The disk's List. -/
import Derived.Test.YtikkieaokfailaaGreatDoorDkO
namespace Go.Proofs.YtikkieaokfailaaGreatDoor
open Go.RowKit Go.Joins

theorem exec_appS {w w' : World} {o : Oper} {ρ : Operand → Value} {s x : Operand} {v u v' : Value} (ho : o.op = .call { callee := .builtin .append, args := #[s, x], argTypes := #[81, 81] }) (hs : ρ s = v) (hx : ρ x = u)
    (hrun : (Builtin.append_ #[81, 81] o.type #[v, u]).run Tryz.prog w = .ok v' w') : (execOp ρ o).run Tryz.prog w = .ok (.value v') w' := by
  simp only [execOp, ho, resolve, invoke, builtin, Sem.run_bind, Sem.run_pure, Result.andThen_ok, List.map_toArray, List.map_cons, List.map_nil, hs, hx, hrun]
theorem run_appS {w : World} (ty : TypeId) {base : Nat} {v : Value} {n : Nat} {xs : List Value} (hown : w.ownsRow base 9 1 v n xs) (y : Nm) (hn : n ≤ 1000000) (hbase : base ≤ w.heap.size) :
    ∃ v' w', (Builtin.append_ #[81, 81] ty #[v, .slice (some ⟨w.heap.size, 0, none⟩) 1 1]).run Tryz.prog (w.alloc (.cells #[.string y] 9)) = .ok v' w' ∧ w'.ownsRow base 9 1 v' (n + 1) (xs ++ [.string y]) ∧ Keep (fun k => v.ownBlock = some k) w w' := by
  obtain ⟨i0, hi, hz0, hz1, hz2⟩ := info_parts infoStr
  have hk0 : Keep (fun k => v.ownBlock = some k) w (w.alloc (.cells #[.string y] 9)) := (Keep.refl _ _).alloc _
  have hown1 := own_keep (S := fun _ => False) hown ((Keep.refl (fun _ => False) w).alloc (.cells #[.string y] 9)) (fun _ _ h => h)
  obtain ⟨v', w', hrun, h2, h3, _⟩ := run_append_own (P := Tryz.prog) (w.alloc (.cells #[.string y] 9)) base 81 ty 9 i0 (.string ByteArray.empty) 1 16 Tryz.underlying81 hi hz0 hz1 hz2 rfl (by decide) v n xs hown1 ⟨w.heap.size, 0, none⟩ 1 1 [.string y] (by simp) (fun j u hu => by
    rw [add_flat, Nat.zero_add, cell_of_block (alloc_at w (.cells #[.string y] 9))]
    simpa using hu) (by simp [Value.oneCell']) (by unfold maxLen; omega) (by omega) (by simp; omega)
  exact ⟨v', w', hrun, h2, hk0.trans (Keep.ofGrown h3)⟩

set_option maxRecDepth 100000 in
set_option maxHeartbeats 4000000 in
theorem list_go (bd br d : Nat) (F : Nat → Prop) (k : Dk) (hN9 : k.fs.length ≤ 1000000) (W : World) (hDk : DiskAt W F d k) (hd : W.heap[bd]? = some (.cells #[.pointer (some ⟨d, 0, none⟩)] 36 (0, 0))) (hr : W.heap[br]? = some (.cells #[.slice none 0 0] 81 (0, 0))) :
    Calls Tryz.prog 86 #[.pointer (some ⟨bd, 0, none⟩), .pointer (some ⟨br, 0, none⟩)] W fun e w' =>
      e = .returned (.tuple #[]) ∧ ∃ v, w'.heap[br]? = some (.cells #[v] 81 (0, 0)) ∧ w'.ownsRow W.heap.size 9 1 v k.fs.length (nv (k.fs.map Prod.fst)) ∧ Keep (fun i => i = br) W w' := by
  have q1 := box_cell hd
  have hgood := hDk.good
  have hrise : Calls Tryz.prog 69 #[.pointer (some ⟨d, 0, none⟩)] W fun e w' => ∃ v, e = .returned v ∧ w'.ownsRow W.heap.size 9 1 v k.fs.length (nv (k.fs.map Prod.fst)) ∧ Below W.heap.size W w' := by
    obtain ⟨⟨bm, m, hD, hbm, ht, ha⟩, fd, lt, hg⟩ := hDk
    exact rising_any d bm _ _ m k.fs hg.rise (fun s => (ht s).isSome) hN9 W hD
  obtain ⟨N, HN⟩ : ∃ N, Hid (k.fs.length = N) := ⟨_, rfl⟩
  rw [HN.out] at hrise hN9 ⊢
  have hrl := (Array.getElem?_eq_some_iff.1 hr).1
  clear hd hDk
  go_enter Tryz.func86, Tryz.ntmps86
  go_wp2_with (first
    | (go_at_call 69; refine hrise.mono ?_; rintro e w1 ⟨vn, rfl, hrow, hb1⟩; obtain ⟨an, cn, rfl, hobn⟩ := own_formS hrow))
  have hr1 := box_below hr hb1
  obtain ⟨An, hAn⟩ : ∃ A : Option Addr, (an.map fun g => (⟨g, 0, none⟩ : Addr)) = A := ⟨_, rfl⟩
  have HRw : Hid (w1.ownsRow W.heap.size 9 1 (.slice (an.map fun g => ⟨g, 0, none⟩) N cn) N (nv (k.fs.map Prod.fst))) := hrow
  have hsz1 := hb1.size
  rw [hAn]
  clear hrise hrow
  go_loopw [3, 7] (fun _ s7 wr => ∃ (i : Nat) (v : Value), i ≤ N ∧ s7 = .int .i64 i ∧ Hid (wr.heap[br]? = some (.cells #[v] 81 (0, 0))) ∧ Hid (wr.ownsRow w1.heap.size 9 1 v i (nv ((k.fs.take i).map Prod.fst))) ∧ Hid (Keep (fun j => j = br) w1 wr)) (fun _ s7 _ => N - (intOf s7).toNat)
  case atStart => exact ⟨0, _, by omega, rfl, hr1, ⟨rfl, Or.inl ⟨rfl, rfl⟩⟩, Keep.refl _ _⟩
  case round =>
    obtain ⟨i, v, hi, rfl, HC, HO, HK⟩ := hrel
    clear hr1
    by_cases hil : i < N
    · have hcl : (i : Int) < (N : Int) := by omega
      have hik : i < k.fs.length := by rw [HN.out]; exact hil
      obtain ⟨x, hx⟩ : ∃ x, k.fs[i]? = some x := ⟨_, List.getElem?_eq_getElem hik⟩
      have hx64 := isNm_size (hgood.each x (List.mem_of_getElem? hx)).1
      obtain ⟨gn, hgn, hnc⟩ : ∃ gn, an = some gn ∧ wr.cell? ⟨gn, i, none⟩ = some (.string x.1) := by
        cases an with
        | none =>
          rcases HRw.out.2 with ⟨_, h0⟩ | ⟨g, cap, cur, h1, _⟩
          · omega
          · cases h1
        | some gn =>
          refine ⟨gn, rfl, ?_⟩
          have hix : (nv (k.fs.map Prod.fst))[i]? = some (.string x.1) := by
            unfold nv
            rw [List.getElem?_map, List.getElem?_map, hx]
            rfl
          have hc := HRw.out.cells (g := gn) rfl i _ hix
          rw [add_flat, Nat.zero_add] at hc
          have hb := (HRw.out.lt gn rfl).1
          exact HK.out.cell hc (fun h => by have : gn = br := h; omega)
      have e1 : An = some ⟨gn, 0, none⟩ := by rw [← hAn, hgn]; rfl
      subst e1
      have HT : Hid (nv ((k.fs.take (i + 1)).map Prod.fst) = nv ((k.fs.take i).map Prod.fst) ++ [.string x.1]) := by
        show _ = _
        rw [List.take_add_one, hx]
        simp [nv]
      obtain ⟨av, cv, hve, _⟩ := own_formN HO.out
      subst hve
      clear hx
      go_upto_region 3 with fail
      refine wp_region_lx (fun w' => w'.heap[br]? = some (.cells #[.slice av i cv] 81 (0, 0))) [5] 6 (by kernel_rfl) (by kernel_rfl) ?_
      have HC0 : wr.drew.heap[br]? = some (.cells #[.slice av i cv] 81 (0, 0)) := HC.out
      have HO0 : wr.drew.ownsRow w1.heap.size 9 1 (.slice av i cv) i (nv ((k.fs.take i).map Prod.fst)) := own_keep (S := fun _ => False) HO.out ((Keep.refl (fun _ => False) wr).drew) (fun _ _ h => h)
      have HK0 : Keep (fun j => j = br) w1 wr.drew := HK.out.drew
      clear HC HO HK hnc
      generalize wr.drew = X at *
      refine lx_rd 0 (.slice av i cv) (by kernel_rfl) (fun _ _ d _ _ h => by cases d <;> exact h) (by kernel_rfl) HC0 rfl rfl rfl (fun w' hS => ?ha0) ?_
      case ha0 => have q := box_cell hS; first | (go_simp; rfl) | go_simp
      simp only [List.setIfInBounds_toArray, List.set_cons_zero, List.set_cons_succ]
      refine lx_rd 1 ?va1 (by kernel_rfl) (fun _ _ d _ _ h => by cases d <;> exact h) (by kernel_rfl) HC0 rfl rfl rfl (fun w' hS => ?ha1) ?_
      case ha1 => first | (go_simp; rfl) | go_simp
      simp only [List.setIfInBounds_toArray, List.set_cons_zero, List.set_cons_succ]
      refine lx_one 2 (by kernel_rfl) (stepT_call 87 ?a2 rfl rfl rfl ?r2 ?_)
      case r2 => first | (go_simp; rfl) | go_simp
      refine (clone_any x.1 X (by omega)).mono ?_
      rintro e w3 ⟨rfl, hb3⟩
      have HC3 := box_below HC0 hb3
      refine ⟨_, rfl, fun _ => HC3, ?_⟩
      simp only [List.setIfInBounds_toArray, List.set_cons_zero, List.set_cons_succ]
      have hb4 : Below X.heap.size X (w3.alloc (.cells #[.string x.1] 9)) := hb3.alloc hb3.size _
      refine lx_one 3 (by kernel_rfl) (stepT_val (w' := w3.alloc (.cells #[.string x.1] 9)) (.slice (some ⟨w3.heap.size, 0, none⟩) 1 1) rfl rfl rfl ?r3 (fun _ => (Below.heap_alloc _ _ _ (Array.getElem?_eq_some_iff.1 HC3).1).trans HC3) ?_)
      case r3 => first | (go_simp; rfl) | go_simp
      simp only [List.setIfInBounds_toArray, List.set_cons_zero, List.set_cons_succ]
      have HO3 := own_keep (S := fun _ => False) HO0 (Keep.ofBelow hb3) (fun _ _ h => h)
      have HK3 : Keep (fun j => j = br) w1 w3 := HK0.trans (Keep.ofBelow hb3)
      obtain ⟨v5, w5, hrun5, o5, hk5⟩ := run_appS 81 HO3 x.1 (by omega) HK3.size
      have hX1 := HK0.size
      have HC5 := box_keep HC3 hk5 (fun e => by have := (HO3.lt br e).1; omega)
      refine lx_one 4 (by kernel_rfl) (stepT_val (w' := w5) v5 rfl rfl rfl (exec_appS rfl rfl rfl hrun5) (fun _ => HC5) ?_)
      simp only [List.setIfInBounds_toArray, List.set_cons_zero, List.set_cons_succ]
      obtain ⟨a5, c5, rfl, _⟩ := own_formN o5
      have q5 := box_cell HC5
      have z5 := unfrozen_of_block HC5 0
      refine lx_one 5 (by kernel_rfl) (stepT_store (w' := w5.setCell ⟨br, 0, none⟩ (.slice a5 (i + 1) c5)) rfl rfl rfl ?r5 (fun h => by cases h) ?_)
      case r5 => first | (go_simp; rfl) | go_simp
      refine lx_nil (by kernel_rfl) ?_
      have HC6 := block_setCell (i := 0) HC5 (.slice a5 (i + 1) c5)
      have hkS : Keep (fun j => j = br) w5 (w5.setCell ⟨br, 0, none⟩ (.slice a5 (i + 1) c5)) := (Keep.refl (fun j => j = br) w5).setCell (p := ⟨br, 0, none⟩) rfl _
      have HO6 := own_keep o5 hkS (fun g hg e => by have := (o5.lt g hg).1; omega)
      have HK6 : Keep (fun j => j = br) w1 (w5.setCell ⟨br, 0, none⟩ (.slice a5 (i + 1) c5)) := (HK3.andThen hk5 (fun j hj e => absurd (HO3.lt j e).1 (by omega))).trans hkS
      clear hk5 o5 HC5 q5 z5 hrun5 HC3 HO3 HK3 HC0 HO0 HK0 hb3 hb4
      generalize w5.setCell ⟨br, 0, none⟩ (.slice a5 (i + 1) c5) = Z at *
      go_wp2
      exact ⟨⟨i + 1, .slice a5 (i + 1) c5, by omega, by go_num, HC6, by show World.ownsRow _ _ _ _ _ _ _; rw [HT.out]; exact HO6, HK6⟩, by simp [intOf]; omega⟩
    · obtain rfl : i = N := by omega
      have hcl : ¬ (i : Int) < (i : Int) := by omega
      have hO := HO.out
      rw [List.take_of_length_le (by rw [HN.out]; exact Nat.le_refl _)] at hO
      go_wp2
      go_end0
      exact ⟨rfl, v, HC.out, own_weak hO hb1.size, (Keep.ofBelow hb1).trans HK.out⟩

set_option maxHeartbeats 1000000 in
theorem list_any (d : Nat) (F : Nat → Prop) (k : Dk) (hN9 : k.fs.length ≤ 1000000) (w : World) (hDk : DiskAt w F d k) :
    Calls Tryz.prog 37 #[.pointer (some ⟨d, 0, none⟩)] w fun e w' => ∃ v, e = .returned (.tuple #[v, .int .i64 (listK k).1]) ∧ w'.ownsRow w.heap.size 9 1 v (listK k).2.length (nv (listK k).2) ∧ Below w.heap.size w w' := by
  have hmf : ∀ (fn : Fn) (first cap : Array Value) (w : World), (Instr.makeFunc fn first cap).run Tryz.prog w = .ok (.func fn first cap) w := fun _ _ _ _ => rfl
  obtain ⟨W, hW⟩ : ∃ W, (w.alloc (.cells #[.pointer (some ⟨d, 0, none⟩)] 36)).alloc (.cells #[.slice none 0 0] 81) = W := ⟨_, rfl⟩
  have hB : Below w.heap.size w W := by rw [← hW]; exact ((Below.refl _ _).alloc (Nat.le_refl _) _).alloc (by simp) _
  have b0 : W.heap[w.heap.size]? = some (.cells #[.pointer (some ⟨d, 0, none⟩)] 36 (0, 0)) := by rw [← hW]; exact alloc2_at w _ _
  have b2 : W.heap[w.heap.size + 1]? = some (.cells #[.slice none 0 0] 81 (0, 0)) := by rw [← hW]; exact (by simpa using alloc_at (w.alloc (.cells #[.pointer (some ⟨d, 0, none⟩)] 36)) (.cells #[.slice none 0 0] 81))
  have hDW := hDk.below hB
  have hA : Calls Tryz.prog 48 #[.pointer (some ⟨d, 0, none⟩), .func (.func 86) #[] #[.pointer (some ⟨w.heap.size, 0, none⟩), .pointer (some ⟨w.heap.size + 1, 0, none⟩)]] W fun e w' => e = .returned (.int .i64 (listK k).1) ∧ ∃ v, w'.heap[w.heap.size + 1]? = some (.cells #[v] 81 (0, 0)) ∧ w'.ownsRow W.heap.size 9 1 v (listK k).2.length (nv (listK k).2) ∧ Keep (fun i => i = w.heap.size + 1) W w' := by
    have hc4 : W.cell? ⟨d, 4, none⟩ = some (.bool k.off) := by
      obtain ⟨⟨bm, m, h, _⟩, _⟩ := hDW
      exact h.c4
    cases on : k.off with
    | true =>
      have e : listK k = (13, []) := by unfold listK; rw [on]; rfl
      rw [e]
      rw [on] at hc4
      refine (attempt_down d _ _ W hc4).mono ?_
      rintro e w' ⟨rfl, hb⟩
      exact ⟨rfl, _, box_below b2 hb, ⟨rfl, Or.inl ⟨rfl, rfl⟩⟩, Keep.ofBelow hb⟩
    | false =>
      have e : listK k = (0, k.fs.map Prod.fst) := by unfold listK; rw [on]; rfl
      rw [e]
      rw [on] at hc4
      dsimp only
      rw [List.length_map]
      have hb1 : Below W.heap.size W (W.alloc (.cells #[.int .i64 0] 37)) := (Below.refl _ _).alloc (Nat.le_refl _) _
      have hD1 := hDW.below hb1
      have g0 := box_below b0 hb1
      have g2 := box_below b2 hb1
      have ge := alloc_at W (.cells #[.int .i64 0] 37)
      have hWs : w.heap.size + 1 < W.heap.size := (Array.getElem?_eq_some_iff.1 b2).1
      have hVs : (W.alloc (.cells #[.int .i64 0] 37)).heap.size = W.heap.size + 1 := by simp
      refine (attempt_go d _ _ 0 (fun w' => ∃ v, w'.heap[w.heap.size + 1]? = some (.cells #[v] 81 (0, 0)) ∧ w'.ownsRow (W.heap.size + 1) 9 1 v k.fs.length (nv (k.fs.map Prod.fst)) ∧ Keep (fun i => i = w.heap.size + 1) W w') W (enters_of Tryz.func86 (by kernel_rfl) rfl) hc4 ((list_go _ _ d F k hN9 _ hD1 g0 g2).mono ?_)).mono ?_
      · rintro e w' ⟨rfl, v, hv, ho, hk⟩
        rw [hVs] at ho
        exact ⟨Or.inl ⟨rfl, rfl⟩, ⟨v, hv, ho, (Keep.ofBelow hb1).trans hk⟩, box_keep ge hk (by omega)⟩
      · rintro e w' ⟨rfl, w1, ⟨v, hv, ho, hk⟩, rfl⟩
        have hk2 : Keep (fun i => i = W.heap.size) w1 (w1.setCell ⟨W.heap.size, 0, none⟩ (.int .i64 ((0 : Nat) : Int))) := (Keep.refl (fun i => i = W.heap.size) w1).setCell (p := ⟨W.heap.size, 0, none⟩) rfl _
        exact ⟨rfl, v, box_keep hv hk2 (by omega), own_weak (own_keep ho hk2 (fun g hg e => by have := (ho.lt g hg).1; omega)) (by omega), hk.setNew (Nat.le_refl _) _⟩
  have c0 := box_cell b0
  have hWs : w.heap.size + 1 < W.heap.size := (Array.getElem?_eq_some_iff.1 b2).1
  clear hDW
  obtain ⟨P, hP⟩ : ∃ P, listK k = P := ⟨_, rfl⟩
  rw [hP] at hA ⊢
  clear hP
  obtain ⟨en, ns⟩ := P
  dsimp only at hA ⊢
  go_enter Tryz.func37, Tryz.ntmps37
  go_upto_region 2 with (first
    | (go_at_call 48; refine hA.mono ?_; rintro e w1 ⟨rfl, v, hv, ho, hk⟩; obtain ⟨A5, cp5, rfl, _⟩ := own_formN ho; have q2 := box_cell hv; have z2 := unfrozen_of_block hv 0))
  clear hW hA c0
  have hv2 := block_setCell (i := 0) hv (.slice A5 ns.length cp5)
  have q3 := cell_of_block hv2 0
  simp at q3
  obtain ⟨ln, hln⟩ : ∃ ln, ns.length = ln := ⟨_, rfl⟩
  have HLN : Hid (ns.length = ln) := hln
  rw [hln] at q2 q3 ho
  clear hv2 hln
  go_wp2
  have hk2 : Keep (fun i => i = w.heap.size + 1) w1 (w1.setCell ⟨w.heap.size + 1, 0, none⟩ (.slice A5 ln cp5)) := (Keep.refl (fun i => i = w.heap.size + 1) w1).setCell (p := ⟨w.heap.size + 1, 0, none⟩) rfl _
  refine bodyPost_ret (v := .tuple #[.slice A5 ln cp5, .int .i64 (en : Int)]) (by simp [results, Tryz.results37, go_sem, q3]) rfl ⟨_, rfl, ?_, ?_⟩
  · rw [HLN.out]
    exact own_weak (own_keep ho hk2 (fun g hg e => by have := (ho.lt g hg).1; omega)) hB.size
  exact hB.trans ((hk.trans hk2).below hB.size (fun i hi => by omega))

end Go.Proofs.YtikkieaokfailaaGreatDoor
