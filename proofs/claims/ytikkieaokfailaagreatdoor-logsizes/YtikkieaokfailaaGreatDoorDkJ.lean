/- The document's disk: New, first, Read. -/
import Derived.Test.YtikkieaokfailaaGreatDoorDkH
namespace Go.Proofs.YtikkieaokfailaaGreatDoor
open Go.RowKit Go.Joins

theorem exec_appJ {w w' : World} {o : Oper} {ρ : Operand → Value} {s x : Operand} {v u v' : Value} (ho : o.op = .call { callee := .builtin .append, args := #[s, x], argTypes := #[29, 29] }) (hs : ρ s = v) (hx : ρ x = u)
    (hrun : (Builtin.append_ #[29, 29] o.type #[v, u]).run Tryz.prog w = .ok v' w') : (execOp ρ o).run Tryz.prog w = .ok (.value v') w' := by
  simp only [execOp, ho, resolve, invoke, builtin, Sem.run_bind, Sem.run_pure, Result.andThen_ok, List.map_toArray, List.map_cons, List.map_nil, hs, hx, hrun]
theorem run_appJ {w : World} (ty : TypeId) {base : Nat} {v : Value} {n : Nat} {xs : List Int} (hown : w.ownsRow base 5 1 v n (bc xs)) {ao : Option Addr} {m c : Nat} {ys : List Int} (hr : Rd w ao m c ys) (hb : n + m ≤ 1000000000) (hbase : base ≤ w.heap.size) :
    ∃ v' w', (Builtin.append_ #[29, 29] ty #[v, .slice ao m c]).run Tryz.prog w = .ok v' w' ∧ w'.ownsRow base 5 1 v' (n + m) (bc (xs ++ ys)) ∧ Below base w w' := by
  obtain ⟨i0, hi, hz0, hz1, hz2⟩ := info_parts Tryz.info5
  cases ao with
  | none =>
    obtain ⟨rfl, rfl⟩ := rd_noneK hr rfl
    have hys : ys = [] := List.eq_nil_of_length_eq_zero hr.len
    subst hys
    exact ⟨v, w, run_append_owned_none w base 29 ty 5 i0 1 Tryz.underlying29 hi v n (bc xs) hown, by simpa using hown, Below.refl _ _⟩
  | some ad =>
    obtain ⟨v', w', hrun, h2, h3, _⟩ := run_append_own (P := Tryz.prog) w base 29 ty 5 i0 (.int .u8 0) 1 1 Tryz.underlying29 hi hz0 hz1 hz2 rfl (by decide) v n (bc xs) hown ad m c (bc ys) (by rw [bc_len, hr.len]; omega) (hr.news rfl) (bc_one ys) (by unfold maxLen; omega) (by omega) hbase
    rw [← bc_append] at h2
    exact ⟨v', w', hrun, h2, (Below.refl _ _).grown h3 hbase (fun k hk => (hown.lt k hk).1)⟩

theorem refNew_bad (room : Int) (h : room < 0 ∨ 16777216 < room) (w : World) : Calls Tryz.prog 15 #[.int .i64 room] w fun e w' => e = .returned (.tuple #[.pointer none, .bool false]) ∧ w' = w := by
  by_cases h1 : room < 0
  · clear h
    go_enter Tryz.func15, Tryz.ntmps15
    go_wp2
    go_ret2
    exact ⟨rfl, rfl⟩
  · have h2 : 16777216 < room := h.resolve_left h1
    clear h
    go_enter Tryz.func15, Tryz.ntmps15
    go_wp2
    go_ret2
    exact ⟨rfl, rfl⟩
theorem refNew_ok (room : Nat) (h : room ≤ 16777216) (w : World) : Calls Tryz.prog 15 #[.int .i64 (room : Int)] w fun e w' => ∃ d, e = .returned (.tuple #[.pointer (some ⟨d, 0, none⟩), .bool true]) ∧ (∃ G, RefAt w' G d (newK room) ∧ ∀ i, G i → w.heap.size ≤ i) ∧ Below w.heap.size w w' := by
  have h1 : ¬ (room : Int) < 0 := by omega
  have h2 : ¬ 16777216 < (room : Int) := by omega
  go_enter Tryz.func15, Tryz.ntmps15
  go_wp2
  go_ret2
  have hB : Below w.heap.size w (w.alloc (.cells (rcsR (newK room) (.slice none 0 0)) 93)) := (Below.refl _ _).alloc (Nat.le_refl _) _
  refine ⟨w.heap.size, rfl, ⟨fun i => i = w.heap.size, ⟨⟨.slice none 0 0, fun _ => .slice none 0 0, alloc_at w _, ⟨rfl, Or.inl ⟨rfl, rfl⟩⟩, (fun g hg => by cases hg), (fun x hx => by cases hx), fun s => ⟨none, 0, 0, rfl⟩⟩, rfl, fun i hi => ?_, newK_good h⟩, fun i hi => by omega⟩, hB⟩
  subst hi
  show w.heap.size < (w.alloc (.cells (rcsR (newK room) (.slice none 0 0)) 93)).heap.size
  simp

/-- What 'first' answers. -/
def firstK (k : Dk) (s : Nm) (must : Bool) : Nat := if k.off then 13 else if isNm s = false then 4 else if must = true ∧ look k.fs s = none then 7 else 0

theorem first_any (rd : Nat) (G : Nat → Prop) (k : Dk) (s : Nm) (hs : s.size ≤ 9223372036854775807) (must : Bool) (w : World) (hR : RefAt w G rd k) :
    Calls Tryz.prog 55 #[.pointer (some ⟨rd, 0, none⟩), .string s, .bool must] w fun e w' => e = .returned (.int .i64 (firstK k s must : Int)) ∧ w' = w := by
  have hA := at_any rd G k s w hR
  have hRt := right_any s hs w
  obtain ⟨⟨v, sl, hblk, _⟩, _, _, _⟩ := hR
  have q3 : w.cell? ⟨rd, 3, none⟩ = some (.bool k.off) := by rw [cell_of_block hblk]; rfl
  clear hblk
  unfold firstK
  cases on : k.off with
  | true =>
    rw [on] at q3
    rw [if_pos rfl]
    clear on
    go_enter Tryz.func55, Tryz.ntmps55
    go_wp2
    go_ret
    exact ⟨rfl, rfl⟩
  | false =>
    rw [on] at q3
    rw [if_neg (by decide)]
    clear on
    cases hn : isNm s with
    | false =>
      rw [hn] at hRt
      rw [if_pos rfl]
      clear hn
      go_enter Tryz.func55, Tryz.ntmps55
      go_wp2_with (first
        | (go_at_call 93; refine hRt.mono ?_; rintro e w1 ⟨rfl, rfl⟩))
      go_ret
      exact ⟨rfl, rfl⟩
    | true =>
      rw [hn] at hRt
      rw [if_neg (by decide)]
      clear hn
      cases must with
      | false =>
        rw [if_neg (by simp)]
        go_enter Tryz.func55, Tryz.ntmps55
        go_wp2_with (first
          | (go_at_call 93; refine hRt.mono ?_; rintro e w1 ⟨rfl, rfl⟩))
        go_ret
        exact ⟨rfl, rfl⟩
      | true =>
        cases hl : look k.fs s with
        | none =>
          rw [if_pos ⟨rfl, rfl⟩]
          rw [ixL_none hl] at hA
          clear hl
          go_enter Tryz.func55, Tryz.ntmps55
          go_wp2_with (first
            | (go_at_call 93; refine hRt.mono ?_; rintro e w1 ⟨rfl, rfl⟩)
            | (go_at_call 57; refine hA.mono ?_; rintro e w2 ⟨rfl, rfl⟩))
          go_ret
          exact ⟨rfl, rfl⟩
        | some f =>
          rw [if_neg (by simp)]
          obtain ⟨j, hj, _, _⟩ := ixL_some hl 0
          rw [hj, Nat.zero_add] at hA
          clear hl hj
          have hjn : ¬ (j : Int) < 0 := by omega
          go_enter Tryz.func55, Tryz.ntmps55
          go_wp2_with (first
            | (go_at_call 93; refine hRt.mono ?_; rintro e w1 ⟨rfl, rfl⟩)
            | (go_at_call 57; refine hA.mono ?_; rintro e w2 ⟨rfl, rfl⟩))
          go_ret
          exact ⟨rfl, rfl⟩

theorem readK_first (k : Dk) (s : Nm) : (∃ f, firstK k s true = 0 ∧ k.off = false ∧ look k.fs s = some f ∧ readK k s = (0, f.b)) ∨ (firstK k s true ≠ 0 ∧ readK k s = (firstK k s true, [])) := by
  unfold firstK readK
  cases on : k.off with
  | true => right; simp
  | false =>
    cases hn : isNm s with
    | false => right; simp
    | true =>
      cases hl : look k.fs s with
      | none => right; simp
      | some f => left; exact ⟨f, by simp, rfl, rfl, by simp⟩

set_option maxRecDepth 100000 in
set_option maxHeartbeats 2000000 in
theorem refRead_any (rd : Nat) (G : Nat → Prop) (k : Dk) (s : Nm) (hs : s.size ≤ 9223372036854775807) (w : World) (hR : RefAt w G rd k) :
    Calls Tryz.prog 47 #[.pointer (some ⟨rd, 0, none⟩), .string s] w fun e w' => ∃ v, e = .returned (.tuple #[v, .int .i64 (readK k s).1]) ∧ w'.ownsRow w.heap.size 5 1 v (readK k s).2.length (bc (readK k s).2) ∧ Below w.heap.size w w' := by
  have hF := first_any rd G k s hs true w hR
  rcases readK_first k s with ⟨f, h0, on, hlk, hrd⟩ | ⟨h0, hrd⟩
  · rw [hrd]
    rw [h0] at hF
    obtain ⟨j, hj, hix, hjl⟩ := ixL_some hlk 0
    rw [Nat.zero_add] at hj
    have hA := fun w hR => at_any rd G k s w hR
    rw [hj] at hA
    obtain ⟨_, _, hbd⟩ := look_good hR.good hlk
    have hfl : f.b.length ≤ 16777216 := Nat.le_trans (used_mem (look_mem hlk)) (Nat.le_trans hR.good.used hR.good.room)
    have hR0 := hR
    obtain ⟨⟨v, sl, hblk, hrow, hvG, hlies, _⟩, _, _, _⟩ := hR
    obtain ⟨g, cap, e, hcap, hcm, hcs⟩ := row3 hrow (by omega)
    subst e
    obtain ⟨_, hcell, _⟩ := hcs j (s, f) hix
    have hli := (hlies (s, f) (look_mem hlk)).1
    obtain ⟨aj, cj, hvj, _⟩ := Rd.ofRowE hli
    dsimp only at hcell hli hvj
    rw [hvj] at hcell hli
    have hRj0 : Rd w aj f.b.length cj f.b := Rd.ofRow hli hbd
    obtain ⟨ln, hln⟩ : ∃ ln, f.b.length = ln := ⟨_, rfl⟩
    obtain ⟨N, hN⟩ : ∃ N, k.fs.length = N := ⟨_, rfl⟩
    have hq0 : w.cell? ⟨rd, 0, none⟩ = some (.slice (some ⟨g, 0, none⟩) N cap) := by rw [cell_of_block hblk, ← hN]; rfl
    rw [hN] at hcap hjl
    rw [hln] at hcell hRj0 hfl ⊢
    clear hcs hrow hblk hvG hlies hvj hli hlk hix hj h0 hln hN
    have hj0 : (0 : Int) ≤ (j : Int) := by omega
    have hjN : (j : Int) < (N : Int) := by omega
    go_enter Tryz.func47, Tryz.ntmps47
    go_upto_region 4 with (first
      | (go_at_call 55; refine hF.mono ?_; rintro e w1 ⟨rfl, rfl⟩))
    refine wp_region_lx (fun w' => Below w1.drew.heap.size w1.drew w') [] 14 (by kernel_rfl) (by kernel_rfl) ?_
    have hwX : Below w1.heap.size w1 w1.drew := (Below.refl _ _).drew
    have hRX := hR0.below hwX
    have hRj : Rd w1.drew aj ln cj f.b := hRj0.carry (Nat.le_refl _) hwX
    have hcB : ∀ w', Below w1.drew.heap.size w1.drew w' → w'.cell? ⟨g, j * 3 + 1, none⟩ = some (.slice aj ln cj) := fun w' hb => (hb.cell (p := ⟨g, j * 3 + 1, none⟩) (World.block_lt_of_cell? w1 _ hcell)).trans hcell
    have hcF : ∀ w', Below w1.drew.heap.size w1.drew w' → w'.cell? ⟨rd, 0, none⟩ = some (.slice (some ⟨g, 0, none⟩) N cap) := fun w' hb => (hb.cell (p := ⟨rd, 0, none⟩) (World.block_lt_of_cell? w1 _ hq0)).trans hq0
    clear hcell hq0 hRj0 hF
    generalize w1.drew = X at *
    have HSX : Below X.heap.size X X := Below.refl _ _
    refine lx_rd 1 ?vz1 (by kernel_rfl) (fun _ _ d _ _ h => by cases d <;> exact h) (by kernel_rfl) HSX rfl rfl rfl (fun w' hS => ?hz1) ?_
    case hz1 => first | (go_simp; rfl) | go_simp
    simp only [List.setIfInBounds_toArray, List.set_cons_zero, List.set_cons_succ]
    refine lx_rd 2 ?vz2 (by kernel_rfl) (fun _ _ d _ _ h => by cases d <;> exact h) (by kernel_rfl) HSX rfl rfl rfl (fun w' hS => ?hz2) ?_
    case hz2 => first | (go_simp; rfl) | go_simp
    simp only [List.setIfInBounds_toArray, List.set_cons_zero, List.set_cons_succ]
    refine lx_rd 3 ?vz3 (by kernel_rfl) (fun _ _ d _ _ h => by cases d <;> exact h) (by kernel_rfl) HSX rfl rfl rfl (fun w' hS => ?hz3) ?_
    case hz3 => first | (go_simp; rfl) | go_simp
    simp only [List.setIfInBounds_toArray, List.set_cons_zero, List.set_cons_succ]
    refine lx_rd 4 (.slice (some ⟨g, 0, none⟩) N cap) (by kernel_rfl) (fun _ _ d _ _ h => by cases d <;> exact h) (by kernel_rfl) HSX rfl rfl rfl (fun w' hS => ?hz4) ?_
    case hz4 => have q := hcF _ hS; first | (go_simp; rfl) | go_simp
    simp only [List.setIfInBounds_toArray, List.set_cons_zero, List.set_cons_succ]
    refine lx_rd 5 ?vz5 (by kernel_rfl) (fun _ _ d _ _ h => by cases d <;> exact h) (by kernel_rfl) HSX rfl rfl rfl (fun w' hS => ?hz5) ?_
    case hz5 => first | (go_simp; rfl) | go_simp
    simp only [List.setIfInBounds_toArray, List.set_cons_zero, List.set_cons_succ]
    refine lx_rd 6 ?vz6 (by kernel_rfl) (fun _ _ d _ _ h => by cases d <;> exact h) (by kernel_rfl) HSX rfl rfl rfl (fun w' hS => ?hz6) ?_
    case hz6 => first | (go_simp; rfl) | go_simp
    simp only [List.setIfInBounds_toArray, List.set_cons_zero, List.set_cons_succ]
    have hX0 : Below X.heap.size X (X.alloc (.cells #[] 5)) := (Below.refl _ _).alloc (Nat.le_refl _) _
    have hemp : (X.alloc (.cells #[] 5)).ownsRow X.heap.size 5 1 (.slice (some ⟨X.heap.size, 0, none⟩) 0 0) 0 (bc []) := World.ownsRow_made X #[] 0 (Nat.le_refl _) (by unfold maxLen; omega) rfl
    refine lx_two 0 7 (by kernel_rfl) ?_ ?_
    · refine stepT_val (w' := X.alloc (.cells #[] 5)) (.slice (some ⟨X.heap.size, 0, none⟩) 0 0) rfl rfl rfl ?r0a (fun _ => hX0) ?_
      case r0a => first | (go_simp; rfl) | go_simp
      simp only [List.setIfInBounds_toArray, List.set_cons_zero, List.set_cons_succ]
      refine lx_one 7 (by kernel_rfl) (stepT_call 57 ?a7a rfl rfl rfl ?r7a ?_)
      case r7a => first | (go_simp; rfl) | go_simp
      refine (hA _ (hRX.below hX0)).mono ?_
      rintro e w4 ⟨rfl, rfl⟩
      refine ⟨_, rfl, fun _ => hX0, ?_⟩
      simp only [List.setIfInBounds_toArray, List.set_cons_zero, List.set_cons_succ]
      refine lx_rd 8 (.pointer (some ⟨g, j * 3, none⟩)) (by kernel_rfl) (fun _ _ d _ _ h => by cases d <;> exact h) (by kernel_rfl) hX0 rfl rfl rfl (fun w' hS => ?ha8) ?_
      case ha8 => first | (go_simp; rfl) | go_simp
      simp only [List.setIfInBounds_toArray, List.set_cons_zero, List.set_cons_succ]
      refine lx_rd 9 (.pointer (some ⟨g, j * 3 + 1, none⟩)) (by kernel_rfl) (fun _ _ d _ _ h => by cases d <;> exact h) (by kernel_rfl) hX0 rfl rfl rfl (fun w' hS => ?ha9) ?_
      case ha9 => first | (go_simp; rfl) | go_simp
      simp only [List.setIfInBounds_toArray, List.set_cons_zero, List.set_cons_succ]
      refine lx_rd 10 (.slice aj ln cj) (by kernel_rfl) (fun _ _ d _ _ h => by cases d <;> exact h) (by kernel_rfl) hX0 rfl rfl rfl (fun w' hS => ?ha10) ?_
      case ha10 => have q := hcB _ hS; first | (go_simp; rfl) | go_simp
      simp only [List.setIfInBounds_toArray, List.set_cons_zero, List.set_cons_succ]
      obtain ⟨v5, w5, hrun5, o5, hb5⟩ := run_appJ 29 hemp (hRj.carry (Nat.le_refl _) hX0) (by omega) hX0.size
      have hb5' := hX0.trans hb5
      refine lx_one 11 (by kernel_rfl) (stepT_val (w' := w5) v5 rfl rfl rfl (exec_appJ rfl rfl rfl hrun5) (fun _ => hb5') ?_)
      simp only [List.setIfInBounds_toArray, List.set_cons_zero, List.set_cons_succ]
      rw [Nat.zero_add, List.nil_append] at o5
      obtain ⟨a6, c6, rfl, hn6⟩ := Rd.ofRowE o5
      refine lx_one 12 (by kernel_rfl) (stepT_val (w' := w5) (.slice a6 ln c6) rfl rfl rfl ?r12a (fun _ => hb5') ?_)
      case r12a => first | (go_simp; rfl) | go_simp
      simp only [List.setIfInBounds_toArray, List.set_cons_zero, List.set_cons_succ]
      refine lx_one 13 (by kernel_rfl) (stepT_val (w' := w5) (.int .i64 0) rfl rfl rfl ?r13a (fun _ => hb5') ?_)
      case r13a => first | (go_simp; rfl) | go_simp
      simp only [List.setIfInBounds_toArray, List.set_cons_zero, List.set_cons_succ]
      refine lx_nil (by kernel_rfl) ?_
      go_wp2
      go_ret2
      exact ⟨_, rfl, own_weak o5 hwX.size, hwX.trans (hb5'.mono hwX.size)⟩
    · refine stepT_call 57 ?a7b rfl rfl rfl ?r7b ?_
      case r7b => first | (go_simp; rfl) | go_simp
      refine (hA _ hRX).mono ?_
      rintro e w4 ⟨rfl, hw4⟩
      replace hw4 := hw4.symm
      subst hw4
      refine ⟨_, rfl, fun _ => HSX, ?_⟩
      simp only [List.setIfInBounds_toArray, List.set_cons_zero, List.set_cons_succ]
      refine lx_rd 8 (.pointer (some ⟨g, j * 3, none⟩)) (by kernel_rfl) (fun _ _ d _ _ h => by cases d <;> exact h) (by kernel_rfl) HSX rfl rfl rfl (fun w' hS => ?hb8) ?_
      case hb8 => first | (go_simp; rfl) | go_simp
      simp only [List.setIfInBounds_toArray, List.set_cons_zero, List.set_cons_succ]
      refine lx_rd 9 (.pointer (some ⟨g, j * 3 + 1, none⟩)) (by kernel_rfl) (fun _ _ d _ _ h => by cases d <;> exact h) (by kernel_rfl) HSX rfl rfl rfl (fun w' hS => ?hb9) ?_
      case hb9 => first | (go_simp; rfl) | go_simp
      simp only [List.setIfInBounds_toArray, List.set_cons_zero, List.set_cons_succ]
      refine lx_rd 10 (.slice aj ln cj) (by kernel_rfl) (fun _ _ d _ _ h => by cases d <;> exact h) (by kernel_rfl) HSX rfl rfl rfl (fun w' hS => ?hb10) ?_
      case hb10 => have q := hcB _ hS; first | (go_simp; rfl) | go_simp
      simp only [List.setIfInBounds_toArray, List.set_cons_zero, List.set_cons_succ]
      refine lx_one 0 (by kernel_rfl) (stepT_val (w' := X.alloc (.cells #[] 5)) (.slice (some ⟨X.heap.size, 0, none⟩) 0 0) rfl rfl rfl ?r0b (fun _ => (Below.refl _ _).alloc (Nat.le_refl _) _) ?_)
      case r0b => first | (go_simp; rfl) | go_simp
      simp only [List.setIfInBounds_toArray, List.set_cons_zero, List.set_cons_succ]
      obtain ⟨v5, w5, hrun5, o5, hb5⟩ := run_appJ 29 hemp (hRj.carry (Nat.le_refl _) hX0) (by omega) hX0.size
      have hb5' := hX0.trans hb5
      refine lx_one 11 (by kernel_rfl) (stepT_val (w' := w5) v5 rfl rfl rfl (exec_appJ rfl rfl rfl hrun5) (fun _ => hb5') ?_)
      simp only [List.setIfInBounds_toArray, List.set_cons_zero, List.set_cons_succ]
      rw [Nat.zero_add, List.nil_append] at o5
      obtain ⟨a6, c6, rfl, hn6⟩ := Rd.ofRowE o5
      refine lx_one 12 (by kernel_rfl) (stepT_val (w' := w5) (.slice a6 ln c6) rfl rfl rfl ?r12b (fun _ => hb5') ?_)
      case r12b => first | (go_simp; rfl) | go_simp
      simp only [List.setIfInBounds_toArray, List.set_cons_zero, List.set_cons_succ]
      refine lx_one 13 (by kernel_rfl) (stepT_val (w' := w5) (.int .i64 0) rfl rfl rfl ?r13b (fun _ => hb5') ?_)
      case r13b => first | (go_simp; rfl) | go_simp
      simp only [List.setIfInBounds_toArray, List.set_cons_zero, List.set_cons_succ]
      refine lx_nil (by kernel_rfl) ?_
      go_wp2
      go_ret2
      exact ⟨_, rfl, own_weak o5 hwX.size, hwX.trans (hb5'.mono hwX.size)⟩
  · rw [hrd]
    obtain ⟨en, hen⟩ : ∃ en, firstK k s true = en := ⟨_, rfl⟩
    rw [hen] at hF h0 ⊢
    have hne : ((en : Int) != 0) = true := by simp; omega
    clear hen hrd
    go_enter Tryz.func47, Tryz.ntmps47
    go_wp2_with (first
      | (go_at_call 55; refine hF.mono ?_; rintro e w1 ⟨rfl, rfl⟩))
    go_ret2
    exact ⟨_, rfl, ⟨rfl, Or.inl ⟨rfl, rfl⟩⟩, Below.refl _ _⟩

end Go.Proofs.YtikkieaokfailaaGreatDoor
