/- Texts of one seat, one behind the other: DkJ, DkK, DkL, DkO, DkD, LgI. -/
import Derived.Test.YtikkieaokfailaaGreatDoorM5
import Derived.Sort.Walk0
import Derived.Deep.LoopGhost
namespace Go.Proofs.YtikkieaokfailaaGreatDoor
open Go.RowKit Go.Joins
theorem exec_appJ {w w' : World} {o : Oper} {ρ : Operand → Value} {s x : Operand} {v u v' : Value} (ho : o.op = .call { callee := .builtin .append, args := #[s, x], argTypes := #[29, 29] }) (hs : ρ s = v) (hx : ρ x = u)
  (hrun : (Builtin.append_ #[29, 29] o.type #[v, u]).run Tryz.prog w = .ok v' w') : (execOp ρ o).run Tryz.prog w = .ok (.value v') w' := by
 simp only [execOp, ho, resolve, invoke, builtin, Sem.run_bind, Sem.run_pure, Result.andThen_ok, List.map_toArray, List.map_cons, List.map_nil, hs, hx, hrun]
theorem run_appJ {w : World} (ty : TypeId) {base : Nat} {v : Value} {n : Nat} {xs : List Int} (hown : w.ownsRow base 5 1 v n (bc xs)) {ao : Option Addr} {m c : Nat} {ys : List Int} (hr : Rd w ao m c ys) (hb : n + m ≤ 1000000000) (hbase : base ≤ w.heap.size) :
  ∃ v' w', (Builtin.append_ #[29, 29] ty #[v, .slice ao m c]).run Tryz.prog w = .ok v' w' ∧ w'.ownsRow base 5 1 v' (n + m) (bc (xs ++ ys)) ∧ Below base w w' := by
 obtain ⟨i0, hi, hz0, hz1, hz2⟩ := info_parts Tryz.info5
 cases ao with
 | none =>
  obtain ⟨rfl, rfl⟩ := rd_noneK hr rfl
  have hys : ys = [] := List.eq_nil_of_length_eq_zero hr.len
  subst hys
  exact ⟨v, w, run_append_owned_none w base 29 ty 5 i0 1 Tryz.underlying29 hi v n (bc xs) hown, by simpa using hown, Below.refl _ _⟩
 | some ad =>
  obtain ⟨v', w', hrun, h2, h3, _⟩ := run_append_own (P := Tryz.prog) w base 29 ty 5 i0 (.int .u8 0) 1 1 Tryz.underlying29 hi hz0 hz1 hz2 rfl (by decide) v n (bc xs) hown ad m c (bc ys) (by rw [bc_len, hr.len]; omega) (hr.news rfl) (bc_one ys) (by unfold maxLen; omega) (by omega) hbase
  rw [← bc_append] at h2
  exact ⟨v', w', hrun, h2, (Below.refl _ _).grown h3 hbase (fun k hk => (hown.lt k hk).1)⟩
theorem refNew_ok (room : Nat) (h : room ≤ 16777216) (w : World) : Calls Tryz.prog 15 #[.int .i64 (room : Int)] w fun e w' => ∃ d, e = .returned (.tuple #[.pointer (some ⟨d, 0, none⟩), .bool true]) ∧ (∃ G, RefAt w' G d (newK room) ∧ ∀ i, G i → w.heap.size ≤ i) ∧ Below w.heap.size w w' := by
 have h1 : ¬ (room : Int) < 0 := by omega
 have h2 : ¬ 16777216 < (room : Int) := by omega
 go_enter Tryz.func15, Tryz.ntmps15
 go_wp2
 go_ret2
 have hB : Below w.heap.size w (w.alloc (.cells (rcsR (newK room) (.slice none 0 0)) 93)) := (Below.refl _ _).alloc (Nat.le_refl _) _
 refine ⟨w.heap.size, rfl, ⟨fun i => i = w.heap.size, ⟨⟨.slice none 0 0, fun _ => .slice none 0 0, alloc_at w _, ⟨rfl, Or.inl ⟨rfl, rfl⟩⟩, (fun g hg => by cases hg), (fun x hx => by cases hx), fun s => ⟨none, 0, 0, rfl⟩⟩, rfl, fun i hi => ?_, newK_good h⟩, fun i hi => by omega⟩, hB⟩
 subst hi
 show w.heap.size < (w.alloc (.cells (rcsR (newK room) (.slice none 0 0)) 93)).heap.size
 simp
def firstK (k : Dk) (s : Nm) (must : Bool) : Nat := if k.off then 13 else if isNm s = false then 4 else if must = true ∧ look k.fs s = none then 7 else 0
theorem first_any (rd : Nat) (G : Nat → Prop) (k : Dk) (s : Nm) (hs : s.size ≤ 9223372036854775807) (must : Bool) (w : World) (hR : RefAt w G rd k) :
  Calls Tryz.prog 55 #[.pointer (some ⟨rd, 0, none⟩), .string s, .bool must] w fun e w' => e = .returned (.int .i64 (firstK k s must : Int)) ∧ w' = w := by
 have hA := at_any rd G k s w hR
 have hRt := right_any s hs w
 obtain ⟨⟨v, sl, hblk, _⟩, _, _, _⟩ := hR
 have q3 : w.cell? ⟨rd, 3, none⟩ = some (.bool k.off) := by rw [cell_of_block hblk]; rfl
 clear hblk
 unfold firstK
 cases on : k.off with
 | true =>
  rw [on] at q3
  rw [if_pos rfl]
  clear on
  go_enter Tryz.func55, Tryz.ntmps55
  go_wp2
  go_ret
  exact ⟨rfl, rfl⟩
 | false =>
  rw [on] at q3
  rw [if_neg (by decide)]
  clear on
  cases hn : isNm s with
  | false =>
   rw [hn] at hRt
   rw [if_pos rfl]
   clear hn
   go_enter Tryz.func55, Tryz.ntmps55
   go_wp2_with (first
    | (go_at_call 93; refine hRt.mono ?_; rintro e w1 ⟨rfl, rfl⟩))
   go_ret
   exact ⟨rfl, rfl⟩
  | true =>
   rw [hn] at hRt
   rw [if_neg (by decide)]
   clear hn
   cases must with
   | false =>
    rw [if_neg (by simp)]
    go_enter Tryz.func55, Tryz.ntmps55
    go_wp2_with (first
     | (go_at_call 93; refine hRt.mono ?_; rintro e w1 ⟨rfl, rfl⟩))
    go_ret
    exact ⟨rfl, rfl⟩
   | true =>
    cases hl : look k.fs s with
    | none =>
     rw [if_pos ⟨rfl, rfl⟩]
     rw [ixL_none hl] at hA
     clear hl
     go_enter Tryz.func55, Tryz.ntmps55
     go_wp2_with (first
      | (go_at_call 93; refine hRt.mono ?_; rintro e w1 ⟨rfl, rfl⟩)
      | (go_at_call 57; refine hA.mono ?_; rintro e w2 ⟨rfl, rfl⟩))
     go_ret
     exact ⟨rfl, rfl⟩
    | some f =>
     rw [if_neg (by simp)]
     obtain ⟨j, hj, _, _⟩ := ixL_some hl 0
     rw [hj, Nat.zero_add] at hA
     clear hl hj
     have hjn : ¬ (j : Int) < 0 := by omega
     go_enter Tryz.func55, Tryz.ntmps55
     go_wp2_with (first
      | (go_at_call 93; refine hRt.mono ?_; rintro e w1 ⟨rfl, rfl⟩)
      | (go_at_call 57; refine hA.mono ?_; rintro e w2 ⟨rfl, rfl⟩))
     go_ret
     exact ⟨rfl, rfl⟩
theorem readK_first (k : Dk) (s : Nm) : (∃ f, firstK k s true = 0 ∧ k.off = false ∧ look k.fs s = some f ∧ readK k s = (0, f.b)) ∨ (firstK k s true ≠ 0 ∧ readK k s = (firstK k s true, [])) := by
 unfold firstK readK
 cases on : k.off with
 | true => right; simp
 | false =>
  cases hn : isNm s with
  | false => right; simp
  | true =>
   cases hl : look k.fs s with
   | none => right; simp
   | some f => left; exact ⟨f, by simp, rfl, rfl, by simp⟩
set_option maxRecDepth 100000 in
set_option maxHeartbeats 2000000 in
theorem refRead_any (rd : Nat) (G : Nat → Prop) (k : Dk) (s : Nm) (hs : s.size ≤ 9223372036854775807) (w : World) (hR : RefAt w G rd k) :
  Calls Tryz.prog 47 #[.pointer (some ⟨rd, 0, none⟩), .string s] w fun e w' => ∃ v, e = .returned (.tuple #[v, .int .i64 (readK k s).1]) ∧ w'.ownsRow w.heap.size 5 1 v (readK k s).2.length (bc (readK k s).2) ∧ Below w.heap.size w w' := by
 have hF := first_any rd G k s hs true w hR
 rcases readK_first k s with ⟨f, h0, on, hlk, hrd⟩ | ⟨h0, hrd⟩
 ·rw [hrd]
  rw [h0] at hF
  obtain ⟨j, hj, hix, hjl⟩ := ixL_some hlk 0
  rw [Nat.zero_add] at hj
  have hA := fun w hR => at_any rd G k s w hR
  rw [hj] at hA
  obtain ⟨_, _, hbd⟩ := look_good hR.good hlk
  have hfl : f.b.length ≤ 16777216 := Nat.le_trans (used_mem (look_mem hlk)) (Nat.le_trans hR.good.used hR.good.room)
  have hR0 := hR
  obtain ⟨⟨v, sl, hblk, hrow, hvG, hlies, _⟩, _, _, _⟩ := hR
  obtain ⟨g, cap, e, hcap, hcm, hcs⟩ := row3 hrow (by omega)
  subst e
  obtain ⟨_, hcell, _⟩ := hcs j (s, f) hix
  have hli := (hlies (s, f) (look_mem hlk)).1
  obtain ⟨aj, cj, hvj, _⟩ := Rd.ofRowE hli
  dsimp only at hcell hli hvj
  rw [hvj] at hcell hli
  have hRj0 : Rd w aj f.b.length cj f.b := Rd.ofRow hli hbd
  obtain ⟨ln, hln⟩ : ∃ ln, f.b.length = ln := ⟨_, rfl⟩
  obtain ⟨N, hN⟩ : ∃ N, k.fs.length = N := ⟨_, rfl⟩
  have hq0 : w.cell? ⟨rd, 0, none⟩ = some (.slice (some ⟨g, 0, none⟩) N cap) := by rw [cell_of_block hblk, ← hN]; rfl
  rw [hN] at hcap hjl
  rw [hln] at hcell hRj0 hfl ⊢
  clear hcs hrow hblk hvG hlies hvj hli hlk hix hj h0 hln hN
  have hj0 : (0 : Int) ≤ (j : Int) := by omega
  have hjN : (j : Int) < (N : Int) := by omega
  go_enter Tryz.func47, Tryz.ntmps47
  go_upto_region 4 with (first
   | (go_at_call 55; refine hF.mono ?_; rintro e w1 ⟨rfl, rfl⟩))
  refine wp_region_lx (fun w' => Below w1.drew.heap.size w1.drew w') [] 14 (by kernel_rfl) (by kernel_rfl) ?_
  have hwX : Below w1.heap.size w1 w1.drew := (Below.refl _ _).drew
  have hRX := hR0.below hwX
  have hRj : Rd w1.drew aj ln cj f.b := hRj0.carry (Nat.le_refl _) hwX
  have hcB : ∀ w', Below w1.drew.heap.size w1.drew w' → w'.cell? ⟨g, j * 3 + 1, none⟩ = some (.slice aj ln cj) := fun w' hb => (hb.cell (p := ⟨g, j * 3 + 1, none⟩) (World.block_lt_of_cell? w1 _ hcell)).trans hcell
  have hcF : ∀ w', Below w1.drew.heap.size w1.drew w' → w'.cell? ⟨rd, 0, none⟩ = some (.slice (some ⟨g, 0, none⟩) N cap) := fun w' hb => (hb.cell (p := ⟨rd, 0, none⟩) (World.block_lt_of_cell? w1 _ hq0)).trans hq0
  clear hcell hq0 hRj0 hF
  generalize w1.drew = X at *
  have HSX : Below X.heap.size X X := Below.refl _ _
  refine lx_r 1 _ HSX ?_; simp only [lxa, lxb, lxc]
  refine lx_r 2 _ HSX ?_; simp only [lxa, lxb, lxc]
  refine lx_r 3 _ HSX ?_; simp only [lxa, lxb, lxc]
  refine lx_r 4 (.slice (some ⟨g, 0, none⟩) N cap) HSX ?_ (hv := fun w' hS => by have q := hcF _ hS; first | (go_simp; rfl) | go_simp); simp only [lxa, lxb, lxc]
  refine lx_r 5 _ HSX ?_; simp only [lxa, lxb, lxc]
  refine lx_r 6 _ HSX ?_; simp only [lxa, lxb, lxc]
  have hX0 : Below X.heap.size X (X.alloc (.cells #[] 5)) := (Below.refl _ _).alloc (Nat.le_refl _) _
  have hemp : (X.alloc (.cells #[] 5)).ownsRow X.heap.size 5 1 (.slice (some ⟨X.heap.size, 0, none⟩) 0 0) 0 (bc []) := World.ownsRow_made X #[] 0 (Nat.le_refl _) (by unfold maxLen; omega) rfl
  refine lx_two 0 7 (by kernel_rfl) ?_ ?_
  ·refine stepT_val (w' := X.alloc (.cells #[] 5)) (.slice (some ⟨X.heap.size, 0, none⟩) 0 0) rfl rfl rfl ?r0a (fun _ => hX0) ?_
   case r0a => first | (go_simp; rfl) | go_simp
   simp only [lxa, lxb, lxc]
   refine lx_one 7 (by kernel_rfl) (stepT_call 57 ?a7a rfl rfl rfl ?r7a ?_)
   case r7a => first | (go_simp; rfl) | go_simp
   refine (hA _ (hRX.below hX0)).mono ?_
   rintro e w4 ⟨rfl, rfl⟩
   refine ⟨_, rfl, fun _ => hX0, ?_⟩
   simp only [lxa, lxb, lxc]
   refine lx_r 8 (.pointer (some ⟨g, j * 3, none⟩)) hX0 ?_; simp only [lxa, lxb, lxc]
   refine lx_r 9 (.pointer (some ⟨g, j * 3 + 1, none⟩)) hX0 ?_; simp only [lxa, lxb, lxc]
   refine lx_r 10 (.slice aj ln cj) hX0 ?_ (hv := fun w' hS => by have q := hcB _ hS; first | (go_simp; rfl) | go_simp); simp only [lxa, lxb, lxc]
   obtain ⟨v5, w5, hrun5, o5, hb5⟩ := run_appJ 29 hemp (hRj.carry (Nat.le_refl _) hX0) (by omega) hX0.size
   have hb5' := hX0.trans hb5
   refine lx_one 11 (by kernel_rfl) (stepT_val (w' := w5) v5 rfl rfl rfl (exec_appJ rfl rfl rfl hrun5) (fun _ => hb5') ?_)
   simp only [lxa, lxb, lxc]
   rw [Nat.zero_add, List.nil_append] at o5
   obtain ⟨a6, c6, rfl, hn6⟩ := Rd.ofRowE o5
   refine lx_one 12 (by kernel_rfl) (stepT_val (w' := w5) (.slice a6 ln c6) rfl rfl rfl ?r12a (fun _ => hb5') ?_)
   case r12a => first | (go_simp; rfl) | go_simp
   simp only [lxa, lxb, lxc]
   refine lx_one 13 (by kernel_rfl) (stepT_val (w' := w5) (.int .i64 0) rfl rfl rfl ?r13a (fun _ => hb5') ?_)
   case r13a => first | (go_simp; rfl) | go_simp
   simp only [lxa, lxb, lxc]
   refine lx_nil (by kernel_rfl) ?_
   go_wp2
   go_ret2
   exact ⟨_, rfl, own_weak o5 hwX.size, hwX.trans (hb5'.mono hwX.size)⟩
  ·refine stepT_call 57 ?a7b rfl rfl rfl ?r7b ?_
   case r7b => first | (go_simp; rfl) | go_simp
   refine (hA _ hRX).mono ?_
   rintro e w4 ⟨rfl, hw4⟩
   replace hw4 := hw4.symm
   subst hw4
   refine ⟨_, rfl, fun _ => HSX, ?_⟩
   simp only [lxa, lxb, lxc]
   refine lx_r 8 (.pointer (some ⟨g, j * 3, none⟩)) HSX ?_; simp only [lxa, lxb, lxc]
   refine lx_r 9 (.pointer (some ⟨g, j * 3 + 1, none⟩)) HSX ?_; simp only [lxa, lxb, lxc]
   refine lx_r 10 (.slice aj ln cj) HSX ?_ (hv := fun w' hS => by have q := hcB _ hS; first | (go_simp; rfl) | go_simp); simp only [lxa, lxb, lxc]
   refine lx_one 0 (by kernel_rfl) (stepT_val (w' := X.alloc (.cells #[] 5)) (.slice (some ⟨X.heap.size, 0, none⟩) 0 0) rfl rfl rfl ?r0b (fun _ => (Below.refl _ _).alloc (Nat.le_refl _) _) ?_)
   case r0b => first | (go_simp; rfl) | go_simp
   simp only [lxa, lxb, lxc]
   obtain ⟨v5, w5, hrun5, o5, hb5⟩ := run_appJ 29 hemp (hRj.carry (Nat.le_refl _) hX0) (by omega) hX0.size
   have hb5' := hX0.trans hb5
   refine lx_one 11 (by kernel_rfl) (stepT_val (w' := w5) v5 rfl rfl rfl (exec_appJ rfl rfl rfl hrun5) (fun _ => hb5') ?_)
   simp only [lxa, lxb, lxc]
   rw [Nat.zero_add, List.nil_append] at o5
   obtain ⟨a6, c6, rfl, hn6⟩ := Rd.ofRowE o5
   refine lx_one 12 (by kernel_rfl) (stepT_val (w' := w5) (.slice a6 ln c6) rfl rfl rfl ?r12b (fun _ => hb5') ?_)
   case r12b => first | (go_simp; rfl) | go_simp
   simp only [lxa, lxb, lxc]
   refine lx_one 13 (by kernel_rfl) (stepT_val (w' := w5) (.int .i64 0) rfl rfl rfl ?r13b (fun _ => hb5') ?_)
   case r13b => first | (go_simp; rfl) | go_simp
   simp only [lxa, lxb, lxc]
   refine lx_nil (by kernel_rfl) ?_
   go_wp2
   go_ret2
   exact ⟨_, rfl, own_weak o5 hwX.size, hwX.trans (hb5'.mono hwX.size)⟩
 ·rw [hrd]
  obtain ⟨en, hen⟩ : ∃ en, firstK k s true = en := ⟨_, rfl⟩
  rw [hen] at hF h0 ⊢
  have hne : ((en : Int) != 0) = true := by simp; omega
  clear hen hrd
  go_enter Tryz.func47, Tryz.ntmps47
  go_wp2_with (first
   | (go_at_call 55; refine hF.mono ?_; rintro e w1 ⟨rfl, rfl⟩))
  go_ret2
  exact ⟨_, rfl, ⟨rfl, Or.inl ⟨rfl, rfl⟩⟩, Below.refl _ _⟩
end Go.Proofs.YtikkieaokfailaaGreatDoor

namespace Go.Proofs.YtikkieaokfailaaGreatDoor
open Go.RowKit Go.Joins
theorem wp_app1 (t e : TypeId) (z : Value) (size bytes : Nat) (ht : Tryz.prog.underlying t = some (.slice e)) (hif : (Tryz.prog.info? e).map (fun i => (i.zero, i.size, i.bytes)) = some (some z, size, bytes)) (hzs : z.cells.size = size) (hsz : 0 < size) (hby : bytes ≤ 100)
  {w : World} {ops : Array Oper} {rest : List Oper} {o : Oper} {a : Act} {Q : Exit → Act → World → Prop} (hgd : o.guard = none) (s x : Operand)
  (ho : o.op = .call { callee := .builtin .append, args := #[s, x], argTypes := #[t, t] })
  (base : Nat) (v : Value) (n : Nat) (xs : List Value) (hs : a.eval s = v) (hown : w.ownsRow base e size v n xs) (cs : Array Value) (hcs : cs.size = size) (hone : ∀ u ∈ cs.toList, u.oneCell' = true)
  (hx : a.eval x = .slice (some ⟨w.heap.size, 0, none⟩) 1 1) (hn : n ≤ 1000000) (hbase : base ≤ w.heap.size)
  (h : ∀ v' w', w'.ownsRow base e size v' (n + 1) (xs ++ cs.toList) → Keep (fun k => v.ownBlock = some k) w w' → (v' ≠ .slice none 0 0) → wpList Tryz.prog ops Q rest (a.put o.dst v') w') : wpList Tryz.prog ops Q (o :: rest) a (w.alloc (.cells cs e)) := by
 obtain ⟨i0, hi, hz0, hz1, hz2⟩ := info_parts hif
 have hk0 : Keep (fun k => v.ownBlock = some k) w (w.alloc (.cells cs e)) := (Keep.refl _ _).alloc _
 have hown1 : (w.alloc (.cells cs e)).ownsRow base e size v n xs := own_keep (S := fun _ => False) hown ((Keep.refl _ _).alloc _) (fun _ _ h => h)
 refine wpList_append_own (w.alloc (.cells cs e)) hgd s x t ho base e i0 z size bytes ht hi hz0 hz1 hz2 hzs hsz v n xs hs hown1 ⟨w.heap.size, 0, none⟩ 1 1 cs.toList hx (by simp [hcs]) (fun j u hu => ?_) hone (by unfold maxLen; omega) (by
  have : (n + 1) * bytes ≤ (1000000 + 1) * 100 := Nat.mul_le_mul (by omega) hby
  omega) (by simp; omega) ?_
 ·rw [add_flat, Nat.zero_add, cell_of_block (alloc_at w (.cells cs e))]
  simpa using hu
 ·intro v' w' k1 k2 k3
  refine h v' w' k1 (hk0.trans (Keep.ofGrown k2)) (fun e => ?_)
  have := k3.1 e
  omega
theorem infoStr : (Tryz.prog.info? 9).map (fun i => (i.zero, i.size, i.bytes)) = some (some (.string ByteArray.empty), 1, 16) := by kernel_rfl
theorem infoFile : (Tryz.prog.info? 113).map (fun i => (i.zero, i.size, i.bytes)) = some (some (.agg #[.string ByteArray.empty, .slice none 0 0, .int .i64 0]), 3, 48) := by kernel_rfl
theorem own_formN {w : World} {B : Nat} {v : Value} {n : Nat} {xs : List Value} (h : w.ownsRow B 9 1 v n xs) : ∃ a c, v = .slice a n c ∧ n ≤ 9223372036854775807 := by
 rcases h.2 with ⟨rfl, rfl⟩ | ⟨g, cap, cur, rfl, _, _, h1, h2, _⟩
 ·exact ⟨none, 0, rfl, by omega⟩
 ·exact ⟨_, _, rfl, by unfold maxLen at h2; omega⟩
def listK (k : Dk) : Nat × List Nm := if k.off then (13, []) else (0, k.fs.map Prod.fst)
set_option maxRecDepth 100000 in
set_option maxHeartbeats 2000000 in
theorem refList_any (rd : Nat) (G : Nat → Prop) (k : Dk) (hN9 : k.fs.length ≤ 1000000) (w : World) (hR : RefAt w G rd k) :
  Calls Tryz.prog 45 #[.pointer (some ⟨rd, 0, none⟩)] w fun e w' => ∃ v, e = .returned (.tuple #[v, .int .i64 (listK k).1]) ∧ w'.ownsRow w.heap.size 9 1 v (listK k).2.length (nv (listK k).2) ∧ Below w.heap.size w w' := by
 have hlt := hR.lt
 obtain ⟨⟨v, sl, hblk, hrow, hvG, _, _⟩, hGrd, _, _⟩ := hR
 have q0 : w.cell? ⟨rd, 0, none⟩ = some v := by rw [cell_of_block hblk]; rfl
 have q3 : w.cell? ⟨rd, 3, none⟩ = some (.bool k.off) := by rw [cell_of_block hblk]; rfl
 clear hblk
 cases on : k.off with
 | true =>
  have e : listK k = (13, []) := by unfold listK; rw [on]; rfl
  rw [e]
  rw [on] at q3
  clear on e
  go_enter Tryz.func45, Tryz.ntmps45
  go_wp2
  go_ret2
  exact ⟨_, rfl, ⟨rfl, Or.inl ⟨rfl, rfl⟩⟩, Below.refl _ _⟩
 | false =>
  have e : listK k = (0, k.fs.map Prod.fst) := by unfold listK; rw [on]; rfl
  rw [e]
  rw [on] at q3
  dsimp only
  rw [List.length_map]
  obtain ⟨va, vc, rfl, hvl⟩ := row_form hrow
  obtain ⟨N, HN⟩ : ∃ N, Hid (k.fs.length = N) := ⟨_, rfl⟩
  have HR : Hid (w.ownsRow 0 113 3 (.slice va k.fs.length vc) k.fs.length (ev sl k.fs)) := hrow
  rw [HN.out] at q0 hvl hN9 ⊢
  clear on e hrow
  go_enter Tryz.func45, Tryz.ntmps45
  go_wp2_with fail
  go_loopw [4, 5] (fun s4 s5 wr => ∃ i : Nat, i ≤ N ∧ s5 = .int .i64 i ∧ Hid (wr.ownsRow w.heap.size 9 1 s4 i (nv ((k.fs.take i).map Prod.fst))) ∧ Hid (Below w.heap.size w wr)) (fun _ s5 _ => N - (intOf s5).toNat)
  case atStart => exact ⟨0, by omega, rfl, ⟨rfl, Or.inl ⟨rfl, rfl⟩⟩, Below.refl _ _⟩
  case round =>
   obtain ⟨i, hi, rfl, HO, HB⟩ := hrel
   have p0 : wr.cell? ⟨rd, 0, none⟩ = some (.slice va N vc) := (HB.out.cell (p := ⟨rd, 0, none⟩) (World.block_lt_of_cell? w _ q0)).trans q0
   by_cases hil : i < N
   ·have hcl : (i : Int) < (N : Int) := by omega
    have hpos : 0 < k.fs.length := by rw [HN.out]; omega
    obtain ⟨g, cap, e, hcap, hcm, hcs⟩ := row3 HR.out hpos
    cases e
    rw [HN.out] at hcap
    have hik : i < k.fs.length := by rw [HN.out]; exact hil
    obtain ⟨x, hx⟩ : ∃ x, k.fs[i]? = some x := ⟨_, List.getElem?_eq_getElem hik⟩
    have hc0 := (hcs i x hx).1
    have hc : wr.cell? ⟨g, i * 3, none⟩ = some (.string x.1) := (HB.out.cell (p := ⟨g, i * 3, none⟩) (World.block_lt_of_cell? w _ hc0)).trans hc0
    have htk : nv ((k.fs.take (i + 1)).map Prod.fst) = nv ((k.fs.take i).map Prod.fst) ++ [.string x.1] := by
     rw [List.take_add_one, hx]
     simp [nv]
    have HT : Hid (nv ((k.fs.take (i + 1)).map Prod.fst) = nv ((k.fs.take i).map Prod.fst) ++ [.string x.1]) := htk
    clear hcs htk hc0
    go_wp2_with (first
     | (at_builtin; refine wp_app1 81 9 (.string ByteArray.empty) 1 16 Tryz.underlying81 infoStr rfl (by decide) (by decide) rfl _ _ rfl w.heap.size _ i _ rfl HO.out #[.string x.1] rfl (by simp [Value.oneCell']) rfl (by omega) HB.out.size ?_; intro v' w1 ho1 hk1 hv1))
    have hB1 : Below w.heap.size w w1 := HB.out.trans (hk1.below HB.out.size (fun j hj => (HO.out.lt j hj).1))
    exact ⟨⟨i + 1, by omega, by go_num, by show World.ownsRow _ _ _ _ _ _ _; rw [HT.out]; exact ho1, hB1⟩, by simp [intOf]; omega⟩
   ·obtain rfl : i = N := by omega
    have hcl : ¬ (i : Int) < (i : Int) := by omega
    have hO := HO.out
    rw [List.take_of_length_le (by rw [HN.out]; exact Nat.le_refl _)] at hO
    clear HO
    go_wp2
    go_ret2
    exact ⟨_, rfl, hO, HB.out⟩
end Go.Proofs.YtikkieaokfailaaGreatDoor

namespace Go.Proofs.YtikkieaokfailaaGreatDoor
open Go.RowKit Go.Joins
theorem put_split {p q : Fls} {s : Nm} {f : Fle} (hp : ∀ x ∈ p, ltN x.1 s) (hq : ∀ x, q.head? = some x → ltN s x.1) : putL (p ++ q) s f = p ++ (s, f) :: q := by
 induction p with
 | nil =>
  cases q with
  | nil => rfl
  | cons y r =>
   obtain ⟨n, g⟩ := y
   show putL ((n, g) :: r) s f = _
   unfold putL
   rw [if_pos (hq (n, g) rfl)]
   rfl
 | cons y r ih =>
  obtain ⟨n, g⟩ := y
  have h1 : ltN n s := hp (n, g) (List.mem_cons_self ..)
  show putL ((n, g) :: (r ++ q)) s f = _
  unfold putL
  rw [if_neg (fun h => ltN_irrefl _ (ltN_trans h h1)), if_neg (fun e => by subst e; exact ltN_irrefl _ h1), ih (fun x hx => hp x (List.mem_cons_of_mem _ hx))]
  rfl
theorem gtr_yes {a b : Nm} (h : ltN b a) : (!(Op.bytesLess a.toList b.toList || a.toList == b.toList)) = true := by
 rw [ByteArray.toList_eq, ByteArray.toList_eq, bytesLess_eq]
 have h1 : ¬ a.data.toList < b.data.toList := fun h2 => List.lt_irrefl _ (List.lt_trans h h2)
 have h2 : ¬ a.data.toList = b.data.toList := fun e => by rw [ltN, e] at h; exact List.lt_irrefl _ h
 have h3 : ¬ a.data = b.data := fun e => h2 (by rw [e])
 simp [h1, h3]
theorem gtr_no {a b : Nm} (h : ltN a b) : (!(Op.bytesLess a.toList b.toList || a.toList == b.toList)) = false := by
 rw [ByteArray.toList_eq, ByteArray.toList_eq, bytesLess_eq]
 have h1 : a.data.toList < b.data.toList := h
 simp [h1]
theorem ev_snoc (sl : Nm → Value) (l : Fls) (x : Nm × Fle) : ev sl (l ++ [x]) = ev sl l ++ [.string x.1, sl x.1, .int .i64 (x.2.safe : Int)] := by rw [ev_app]; rfl
set_option maxRecDepth 100000 in
set_option maxHeartbeats 6000000 in
theorem refPut_any (rd : Nat) (G : Nat → Prop) (k : Dk) (s : Nm) (hno : look k.fs s = none) (f : Fle) (a : Option Addr) (n c : Nat) (hN9 : k.fs.length < 1000000) (w : World) (hR : RefAt w G rd k) (hg1 : ({ k with fs := putL k.fs s f } : Dk).Good)
  (hli : Lies w G (.slice a n c) f) :
  Calls Tryz.prog 58 #[.pointer (some ⟨rd, 0, none⟩), .agg #[.string s, .slice a n c, .int .i64 (f.safe : Int)]] w fun e w' => e = .returned (.tuple #[]) ∧ Rp w G rd { k with fs := putL k.fs s f } w' := by
 have hlt := hR.lt
 have hrise := hR.good.rise
 obtain ⟨⟨v, sl, hblk, hrow, hvG, hlies, hslv⟩, hGrd, _, _⟩ := hR
 have hneq : ∀ x ∈ k.fs, x.1 ≠ s := look_none hno
 obtain ⟨sl', hsl'⟩ : ∃ sl' : Nm → Value, sl' = fun t => if t = s then .slice a n c else sl t := ⟨_, rfl⟩
 have hss : sl' s = .slice a n c := by rw [hsl']; simp
 have hso : ∀ t, t ≠ s → sl' t = sl t := fun t ht => by rw [hsl']; simp [ht]
 have hevl : ev sl k.fs = ev sl' k.fs := ev_congr (fun x hx => (hso x.1 (hneq x hx)).symm)
 rw [hevl] at hrow
 obtain ⟨va, vc, rfl, hvl⟩ := row_form hrow
 obtain ⟨N, HN⟩ : ∃ N, Hid (k.fs.length = N) := ⟨_, rfl⟩
 obtain ⟨P, HP⟩ : ∃ P, Hid (putL k.fs s f = P) := ⟨_, rfl⟩
 have hq0 : w.cell? ⟨rd, 0, none⟩ = some (.slice va N vc) := by rw [cell_of_block hblk, ← HN.out]; rfl
 have HRw : Hid (w.ownsRow 0 113 3 (.slice va k.fs.length vc) k.fs.length (ev sl' k.fs)) := hrow
 rw [HN.out] at hvl hN9
 rw [HP.out] at hg1 ⊢
 have Hss : Hid (sl' s = .slice a n c) := hss
 have Hblk : Hid (w.heap[rd]? = some (.cells (rcsR k (.slice va k.fs.length vc)) 93 (0, 0))) := hblk
 have hone : ∀ t, ∃ a n c, sl' t = .slice a n c := fun t => by
  by_cases h : t = s
  ·exact ⟨a, n, c, by rw [h, hss]⟩
  ·rw [hso t h]; exact hslv t
 have fin : ∀ w9 v9, w9.ownsRow w.heap.size 113 3 v9 P.length (ev sl' P) → Below w.heap.size w w9 → Rp w G rd { k with fs := P } (w9.setCell ⟨rd, 0, none⟩ v9) := fun w9 v9 ho9 hb9 => by
  have hrl : rd < w.heap.size := (Array.getElem?_eq_some_iff.1 hblk).1
  have hblk9 := box_below hblk hb9
  have hk9 : Keep (fun i => i = rd) w (w9.setCell ⟨rd, 0, none⟩ v9) := ((Keep.ofBelow (S := fun i => i = rd) hb9).setCell (p := ⟨rd, 0, none⟩) rfl _)
  refine ⟨fun i => G i ∨ (w.heap.size ≤ i ∧ i < w9.heap.size), ⟨⟨v9, sl', ?_, ?_, ?_, ?_, hone⟩, Or.inl hGrd, ?_, hg1⟩, hk9.mono (fun i e => by subst e; exact hGrd), fun i hi => hi.imp id (fun h => h.1)⟩
  ·rw [block_setCell (i := 0) hblk9]
   rfl
  ·refine own_weak (own_keep ho9 ((Keep.refl (fun i => i = rd) w9).setCell (p := ⟨rd, 0, none⟩) rfl _) (fun g hg e => ?_)) (Nat.zero_le _)
   have := (ho9.lt g hg).1
   omega
  ·intro g hg
   exact Or.inr ⟨(ho9.lt g hg).1, (ho9.lt g hg).2⟩
  ·intro x hx
   have hm : x ∈ putL k.fs s f := by rw [HP.out]; exact hx
   rcases mem_put hm with rfl | hx
   ·show Lies _ _ (sl' s) f
    rw [hss]
    refine hli.keep hk9 (fun g hg e => ?_) (fun _ h => Or.inl h)
    obtain ⟨cur, h2⟩ := own_blk hli.1 hg
    subst e
    rw [hblk] at h2; cases h2
   ·rw [hso x.1 (hneq x hx)]
    refine (hlies x hx).keep hk9 (fun g hg e => ?_) (fun _ h => Or.inl h)
    obtain ⟨cur, h2⟩ := own_blk (hlies x hx).1 hg
    subst e
    rw [hblk] at h2; cases h2
  ·intro i hi
   have : (w9.setCell ⟨rd, 0, none⟩ v9).heap.size = w9.heap.size := by simp [World.setCell]
   rw [this]
   rcases hi with h | h
   ·exact Nat.lt_of_lt_of_le (hlt i h) hb9.size
   ·exact h.2
 have hfd := fun w9 (hb : Below w.heap.size w w9) => (hb.cell (p := ⟨rd, 0, none⟩) (World.block_lt_of_cell? w _ hq0)).trans hq0
 have hfz : ∀ w9, Below w.heap.size w w9 → w9.frozen? ⟨rd, 0, none⟩ = false := fun w9 hb => unfrozen_of_block (box_below hblk hb) 0
 have HNe : Hid (∀ x ∈ k.fs, x.1 ≠ s) := hneq
 clear hrow hblk hvG hlies hslv hevl hss hso hneq hno hli hlt hsl' hg1
 go_enter Tryz.func58, Tryz.ntmps58
 go_wp2_with fail
 obtain ⟨bf, hbf⟩ : ∃ bf, w.heap.size = bf := ⟨_, rfl⟩
 have hB0 : Below w.heap.size w (w.alloc (.cells #[.string s, .slice a n c, .int .i64 (f.safe : Int)] 113)) := (Below.refl _ _).alloc (Nat.le_refl _) _
 have hfil := alloc_at w (.cells #[.string s, .slice a n c, .int .i64 (f.safe : Int)] 113)
 rw [hbf] at hfil ⊢
 generalize w.alloc (.cells #[.string s, .slice a n c, .int .i64 (f.safe : Int)] 113) = w0 at *
 go_loopw [4, 5, 6] (fun s4 s5 s6 wr => ∃ (i : Nat) (dn : Bool) (L : Fls), i ≤ N ∧ s6 = .int .i64 i ∧ s5 = .bool dn ∧ L.length ≤ i + 1 ∧ Hid (if dn then L ++ k.fs.drop i = P else (L = k.fs.take i ∧ ∀ x ∈ L, ltN x.1 s)) ∧ Hid (wr.ownsRow w0.heap.size 113 3 s4 L.length (ev sl' L)) ∧ Hid (Below w0.heap.size w0 wr)) (fun _ _ s6 _ => N - (intOf s6).toNat)
 case atStart => exact ⟨0, false, [], by omega, rfl, rfl, by simp, ⟨rfl, fun x hx => by cases hx⟩, ⟨rfl, Or.inl ⟨rfl, rfl⟩⟩, Below.refl _ _⟩
 case round =>
  obtain ⟨i, dn, L, hi, rfl, rfl, hLl, HX, HO, HB⟩ := hrel
  have hBw : Below w.heap.size w wr := hB0.trans (HB.out.mono hB0.size)
  have p0 := hfd wr hBw
  have hflr := box_below hfil HB.out
  have f0 := cell_of_block hflr 0
  have f1 := cell_of_block hflr 1
  have f2 := cell_of_block hflr 2
  simp at f0 f1 f2
  by_cases hil : i < N
  ·have hcl : (i : Int) < (N : Int) := by omega
   have hpos : 0 < k.fs.length := by rw [HN.out]; omega
   obtain ⟨g, cap, e, hcap, hcm, hcs⟩ := row3 HRw.out hpos
   cases e
   rw [HN.out] at hcap
   have hik : i < k.fs.length := by rw [HN.out]; exact hil
   obtain ⟨x, hx⟩ : ∃ x, k.fs[i]? = some x := ⟨_, List.getElem?_eq_getElem hik⟩
   obtain ⟨hc0, hc1, hc2⟩ := hcs i x hx
   obtain ⟨ax, nx, cx, hsx⟩ := hone x.1
   rw [hsx] at hc1
   have hlow := fun (q : Nat) (u : Value) (h : w.cell? ⟨g, q, none⟩ = some u) => (hBw.cell (p := ⟨g, q, none⟩) (World.block_lt_of_cell? w _ h)).trans h
   have d0 := hlow _ _ hc0
   have d1 := hlow _ _ hc1
   have d2 := hlow _ _ hc2
   have Hsx : Hid (sl' x.1 = .slice ax nx cx) := hsx
   have hdr : k.fs.drop i = x :: k.fs.drop (i + 1) := by rw [List.drop_eq_getElem_cons hik, (List.getElem?_eq_some_iff.1 hx).2]
   have htk : k.fs.take (i + 1) = k.fs.take i ++ [x] := by rw [List.take_add_one, hx]; rfl
   have Hdr : Hid (k.fs.drop i = x :: k.fs.drop (i + 1)) := hdr
   have Htk : Hid (k.fs.take (i + 1) = k.fs.take i ++ [x]) := htk
   have Hx : Hid (k.fs[i]? = some x) := hx
   have hi0 : (0 : Int) ≤ (i : Int) := by omega
   have hgw : g < w0.heap.size := Nat.lt_of_lt_of_le (World.block_lt_of_cell? w _ hc0) hB0.size
   clear hcs hc0 hc1 hc2 hlow hsx hdr htk hx
   cases dn with
   | true =>
    go_upto_region 6 with fail
    refine wp_region_lx (fun w' => w' = wr.drew) [] 15 (by kernel_rfl) (by kernel_rfl) ?_
    have HOd := own_keep (S := fun _ => False) HO.out ((Keep.refl (fun _ => False) wr).drew) (fun _ _ h => h)
    have HBd : Below w0.heap.size w0 wr.drew := HB.out.drew
    have e0 : wr.drew.cell? ⟨rd, 0, none⟩ = some (.slice (some ⟨g, 0, none⟩) N vc) := p0
    have e1 : wr.drew.cell? ⟨g, i * 3, none⟩ = some (.string x.1) := d0
    have e2 : wr.drew.cell? ⟨g, i * 3 + 1, none⟩ = some (.slice ax nx cx) := d1
    have e3 : wr.drew.cell? ⟨g, i * 3 + 2, none⟩ = some (.int .i64 (x.2.safe : Int)) := d2
    have k0 : wr.drew.cell? ⟨bf, 0, none⟩ = some (.string s) := f0
    have k1 : wr.drew.cell? ⟨bf, 1, none⟩ = some (.slice a n c) := f1
    have k2 : wr.drew.cell? ⟨bf, 2, none⟩ = some (.int .i64 (f.safe : Int)) := f2
    clear HO HB p0 d0 d1 d2 f0 f1 f2 hflr hBw
    generalize wr.drew = X at *
    have HSa : X = X := rfl
    refine lx_r 0 _ HSa ?_; simp only [lxa, lxb, lxc]
    refine lx_r 1 (.bool false) HSa ?_; simp only [lxa, lxb, lxc]
    refine lx_r 2 _ HSa ?_; simp only [lxa, lxb, lxc]
    refine lx_s 3 HSa ?_; simp only [lxa, lxb, lxc]
    refine lx_s 4 HSa ?_; simp only [lxa, lxb, lxc]
    refine lx_s 5 HSa ?_; simp only [lxa, lxb, lxc]
    refine lx_s 6 HSa ?_; simp only [lxa, lxb, lxc]
    refine lx_s 7 HSa ?_; simp only [lxa, lxb, lxc]
    refine lx_s 8 HSa ?_; simp only [lxa, lxb, lxc]
    refine lx_s 9 HSa ?_; simp only [lxa, lxb, lxc]
    refine lx_s 10 HSa ?_; simp only [lxa, lxb, lxc]
    refine lx_s 11 HSa ?_; simp only [lxa, lxb, lxc]
    refine lx_s 12 HSa ?_; simp only [lxa, lxb, lxc]
    refine lx_s 13 HSa ?_; simp only [lxa, lxb, lxc]
    refine lx_r 14 (.bool false) HSa ?_; simp only [lxa, lxb, lxc]
    refine lx_nil (by kernel_rfl) ?_
    clear HSa
    have hBX : Below w.heap.size w X := hB0.trans (HBd.mono hB0.size)
    go_wp2_with (first
     | (at_builtin; refine wp_app1 91 113 (.agg #[.string ByteArray.empty, .slice none 0 0, .int .i64 0]) 3 48 Tryz.underlying91 infoFile rfl (by decide) (by decide) rfl _ _ rfl w0.heap.size _ L.length _ rfl HOd #[.string x.1, .slice ax nx cx, .int .i64 (x.2.safe : Int)] rfl (by simp [Value.oneCell']) rfl (by omega) HBd.size ?_; intro v' w1 ho1 hk1 hv1))
    have hB1 : Below w0.heap.size w0 w1 := HBd.trans (hk1.below HBd.size (fun j hj => (HOd.lt j hj).1))
    have hXX := HX.out
    simp only [if_true] at hXX
    refine ⟨⟨i + 1, true, L ++ [x], by omega, by go_num, rfl, by simp; omega, ?_, ?_, ?_⟩, by simp [intOf]; omega⟩
    ·show (if true = true then (L ++ [x]) ++ k.fs.drop (i + 1) = P else _)
     rw [if_pos rfl, List.append_assoc, ← hXX, Hdr.out]
     rfl
    ·show World.ownsRow _ _ _ _ _ _ _
     rw [ev_snoc, Hsx.out, List.length_append]
     exact ho1
    ·exact hB1
   | false =>
    have hXX := HX.out
    simp only [Bool.false_eq_true, if_false] at hXX
    obtain ⟨hL0, hsm0⟩ := hXX
    have hL : Hid (L = k.fs.take i) := hL0
    have hLi : L.length ≤ i := by rw [hL0, List.length_take]; omega
    have hsm : ∀ y ∈ L, ltN y.1 s := hsm0
    have hxs : ltN s x.1 ∨ ltN x.1 s := by
     by_cases h : ltN s x.1
     ·exact Or.inl h
     ·exact Or.inr (ltN_tri h (fun e => HNe.out x (List.mem_of_getElem? Hx.out) e.symm))
    clear hL0 hsm0 HX
    rcases hxs with hxs | hxs
    ·-- a greater name: the file goes here
     go_upto_region 6 with fail
     refine wp_region_lx (fun w' => w' = wr.drew) [] 15 (by kernel_rfl) (by kernel_rfl) ?_
     have HOd := own_keep (S := fun _ => False) HO.out ((Keep.refl (fun _ => False) wr).drew) (fun _ _ h => h)
     have HBd : Below w0.heap.size w0 wr.drew := HB.out.drew
     have e0 : wr.drew.cell? ⟨rd, 0, none⟩ = some (.slice (some ⟨g, 0, none⟩) N vc) := p0
     have e1 : wr.drew.cell? ⟨g, i * 3, none⟩ = some (.string x.1) := d0
     have e2 : wr.drew.cell? ⟨g, i * 3 + 1, none⟩ = some (.slice ax nx cx) := d1
     have e3 : wr.drew.cell? ⟨g, i * 3 + 2, none⟩ = some (.int .i64 (x.2.safe : Int)) := d2
     have k0 : wr.drew.cell? ⟨bf, 0, none⟩ = some (.string s) := f0
     have k1 : wr.drew.cell? ⟨bf, 1, none⟩ = some (.slice a n c) := f1
     have k2 : wr.drew.cell? ⟨bf, 2, none⟩ = some (.int .i64 (f.safe : Int)) := f2
     clear HO HB p0 d0 d1 d2 f0 f1 f2 hflr hBw
     generalize wr.drew = X at *
     have HSa : X = X := rfl
     refine lx_r 0 _ HSa ?_; simp only [lxa, lxb, lxc]
     refine lx_r 1 (.bool true) HSa ?_; simp only [lxa, lxb, lxc]
     refine lx_r 2 _ HSa ?_; simp only [lxa, lxb, lxc]
     refine lx_r 3 _ HSa ?_; simp only [lxa, lxb, lxc]
     refine lx_r 4 _ HSa ?_; simp only [lxa, lxb, lxc]
     refine lx_r 5 _ HSa ?_; simp only [lxa, lxb, lxc]
     refine lx_r 6 (.slice (some ⟨g, 0, none⟩) N vc) HSa ?_ (hv := fun w' hS => by subst hS; first | (go_simp; rfl) | go_simp); simp only [lxa, lxb, lxc]
     refine lx_r 7 _ HSa ?_; simp only [lxa, lxb, lxc]
     refine lx_r 8 (.pointer (some ⟨g, i * 3, none⟩)) HSa ?_; simp only [lxa, lxb, lxc]
     refine lx_r 9 _ HSa ?_; simp only [lxa, lxb, lxc]
     refine lx_r 10 (.string x.1) HSa ?_ (hv := fun w' hS => by subst hS; first | (go_simp; rfl) | go_simp); simp only [lxa, lxb, lxc]
     refine lx_r 11 _ HSa ?_; simp only [lxa, lxb, lxc]
     refine lx_r 12 (.string s) HSa ?_ (hv := fun w' hS => by subst hS; first | (go_simp; rfl) | go_simp); simp only [lxa, lxb, lxc]
     refine lx_r 13 (.bool true) HSa ?_ (hv := fun w' hS => by have hgt := gtr_yes hxs; first | (go_simp; rfl) | go_simp); simp only [lxa, lxb, lxc]
     refine lx_r 14 (.bool true) HSa ?_; simp only [lxa, lxb, lxc]
     refine lx_nil (by kernel_rfl) ?_
     clear HSa
     have hBX : Below w.heap.size w X := hB0.trans (HBd.mono hB0.size)
     have k0' := k0
     go_upto_region 9 with (first
      | (at_builtin; refine wp_app1 91 113 (.agg #[.string ByteArray.empty, .slice none 0 0, .int .i64 0]) 3 48 Tryz.underlying91 infoFile rfl (by decide) (by decide) rfl _ _ rfl w0.heap.size _ L.length _ rfl HOd #[.string s, .slice a n c, .int .i64 (f.safe : Int)] rfl (by simp [Value.oneCell']) rfl (by omega) HBd.size ?_; intro v' w1 ho1 hk1 hv1))
     have hB1 : Below w0.heap.size w0 w1 := HBd.trans (hk1.below HBd.size (fun j hj => (HOd.lt j hj).1))
     have hBw1 : Below w.heap.size w w1 := hB0.trans (hB1.mono hB0.size)
     have j0 : w1.cell? ⟨rd, 0, none⟩ = some (.slice (some ⟨g, 0, none⟩) N vc) := hfd w1 hBw1
     have j1 : w1.cell? ⟨g, i * 3, none⟩ = some (.string x.1) := hk1.cell e1 (fun h => Nat.lt_irrefl _ (Nat.lt_of_le_of_lt (HOd.lt _ h).1 hgw))
     have j2 : w1.cell? ⟨g, i * 3 + 1, none⟩ = some (.slice ax nx cx) := hk1.cell e2 (fun h => Nat.lt_irrefl _ (Nat.lt_of_le_of_lt (HOd.lt _ h).1 hgw))
     have j3 : w1.cell? ⟨g, i * 3 + 2, none⟩ = some (.int .i64 (x.2.safe : Int)) := hk1.cell e3 (fun h => Nat.lt_irrefl _ (Nat.lt_of_le_of_lt (HOd.lt _ h).1 hgw))
     have ho1' : w1.ownsRow w0.heap.size 113 3 v' (L.length + 1) (ev sl' (L ++ [(s, f)])) := by rw [ev_snoc]; show World.ownsRow _ _ _ _ _ _ (ev sl' L ++ [.string s, sl' s, .int .i64 (f.safe : Int)]); rw [Hss.out]; exact ho1
     clear e0 e1 e2 e3 k0 k1 k2 k0' HOd ho1 hk1 hv1
     go_wp2_with (first
      | (at_builtin; refine wp_app1 91 113 (.agg #[.string ByteArray.empty, .slice none 0 0, .int .i64 0]) 3 48 Tryz.underlying91 infoFile rfl (by decide) (by decide) rfl _ _ rfl w0.heap.size _ (L.length + 1) _ rfl ho1' #[.string x.1, .slice ax nx cx, .int .i64 (x.2.safe : Int)] rfl (by simp [Value.oneCell']) rfl (by omega) hB1.size ?_; intro v2 w2 ho2 hk2 hv2))
     have hB2 : Below w0.heap.size w0 w2 := hB1.trans (hk2.below hB1.size (fun j hj => (ho1'.lt j hj).1))
     refine ⟨⟨i + 1, true, L ++ [(s, f)] ++ [x], by omega, by go_num, rfl, by simp; omega, ?_, ?_, hB2⟩, by simp [intOf]; omega⟩
     ·show (if true = true then (L ++ [(s, f)] ++ [x]) ++ k.fs.drop (i + 1) = P else _)
      rw [if_pos rfl, ← HP.out]
      have e : k.fs = L ++ (x :: k.fs.drop (i + 1)) := by rw [hL.out, ← Hdr.out, List.take_append_drop]
      have h := put_split (f := f) hsm (q := x :: k.fs.drop (i + 1)) (fun y hy => by cases hy; exact hxs)
      rw [← e] at h
      rw [h]
      simp
     ·show World.ownsRow _ _ _ _ _ _ _
      rw [ev_snoc, Hsx.out]
      have e2 : (L ++ [(s, f)] ++ [x]).length = L.length + 1 + 1 := by simp
      rw [e2]
      exact ho2
    ·-- a smaller name
     go_upto_region 6 with fail
     refine wp_region_lx (fun w' => w' = wr.drew) [] 15 (by kernel_rfl) (by kernel_rfl) ?_
     have HOd := own_keep (S := fun _ => False) HO.out ((Keep.refl (fun _ => False) wr).drew) (fun _ _ h => h)
     have HBd : Below w0.heap.size w0 wr.drew := HB.out.drew
     have e0 : wr.drew.cell? ⟨rd, 0, none⟩ = some (.slice (some ⟨g, 0, none⟩) N vc) := p0
     have e1 : wr.drew.cell? ⟨g, i * 3, none⟩ = some (.string x.1) := d0
     have e2 : wr.drew.cell? ⟨g, i * 3 + 1, none⟩ = some (.slice ax nx cx) := d1
     have e3 : wr.drew.cell? ⟨g, i * 3 + 2, none⟩ = some (.int .i64 (x.2.safe : Int)) := d2
     have k0 : wr.drew.cell? ⟨bf, 0, none⟩ = some (.string s) := f0
     have k1 : wr.drew.cell? ⟨bf, 1, none⟩ = some (.slice a n c) := f1
     have k2 : wr.drew.cell? ⟨bf, 2, none⟩ = some (.int .i64 (f.safe : Int)) := f2
     clear HO HB p0 d0 d1 d2 f0 f1 f2 hflr hBw
     generalize wr.drew = X at *
     have HSa : X = X := rfl
     refine lx_r 0 _ HSa ?_; simp only [lxa, lxb, lxc]
     refine lx_r 1 (.bool true) HSa ?_; simp only [lxa, lxb, lxc]
     refine lx_r 2 _ HSa ?_; simp only [lxa, lxb, lxc]
     refine lx_r 3 _ HSa ?_; simp only [lxa, lxb, lxc]
     refine lx_r 4 _ HSa ?_; simp only [lxa, lxb, lxc]
     refine lx_r 5 _ HSa ?_; simp only [lxa, lxb, lxc]
     refine lx_r 6 (.slice (some ⟨g, 0, none⟩) N vc) HSa ?_ (hv := fun w' hS => by subst hS; first | (go_simp; rfl) | go_simp); simp only [lxa, lxb, lxc]
     refine lx_r 7 _ HSa ?_; simp only [lxa, lxb, lxc]
     refine lx_r 8 (.pointer (some ⟨g, i * 3, none⟩)) HSa ?_; simp only [lxa, lxb, lxc]
     refine lx_r 9 _ HSa ?_; simp only [lxa, lxb, lxc]
     refine lx_r 10 (.string x.1) HSa ?_ (hv := fun w' hS => by subst hS; first | (go_simp; rfl) | go_simp); simp only [lxa, lxb, lxc]
     refine lx_r 11 _ HSa ?_; simp only [lxa, lxb, lxc]
     refine lx_r 12 (.string s) HSa ?_ (hv := fun w' hS => by subst hS; first | (go_simp; rfl) | go_simp); simp only [lxa, lxb, lxc]
     refine lx_r 13 (.bool false) HSa ?_ (hv := fun w' hS => by have hgt := gtr_no hxs; first | (go_simp; rfl) | go_simp); simp only [lxa, lxb, lxc]
     refine lx_r 14 (.bool false) HSa ?_; simp only [lxa, lxb, lxc]
     refine lx_nil (by kernel_rfl) ?_
     clear HSa
     have hBX : Below w.heap.size w X := hB0.trans (HBd.mono hB0.size)
     go_wp2_with (first
      | (at_builtin; refine wp_app1 91 113 (.agg #[.string ByteArray.empty, .slice none 0 0, .int .i64 0]) 3 48 Tryz.underlying91 infoFile rfl (by decide) (by decide) rfl _ _ rfl w0.heap.size _ L.length _ rfl HOd #[.string x.1, .slice ax nx cx, .int .i64 (x.2.safe : Int)] rfl (by simp [Value.oneCell']) rfl (by omega) HBd.size ?_; intro v' w1 ho1 hk1 hv1))
     have hB1 : Below w0.heap.size w0 w1 := HBd.trans (hk1.below HBd.size (fun j hj => (HOd.lt j hj).1))
     refine ⟨⟨i + 1, false, L ++ [x], by omega, by go_num, rfl, by simp; omega, ?_, ?_, hB1⟩, by simp [intOf]; omega⟩
     ·show (if false = true then _ else (L ++ [x] = k.fs.take (i + 1) ∧ ∀ y ∈ L ++ [x], ltN y.1 s))
      rw [if_neg (by decide)]
      refine ⟨by rw [Htk.out, hL.out], fun y hy => ?_⟩
      rcases List.mem_append.1 hy with h | h
      ·exact hsm y h
      ·rw [List.mem_singleton] at h
       rw [h]; exact hxs
     ·show World.ownsRow _ _ _ _ _ _ _
      rw [ev_snoc, Hsx.out, List.length_append]
      exact ho1
  ·obtain rfl : i = N := by omega
   have hcl : ¬ (i : Int) < (i : Int) := by omega
   have hz := hfz wr hBw
   cases dn with
   | true =>
    have hXX := HX.out
    simp only [if_true] at hXX
    rw [List.drop_eq_nil_of_le (by rw [HN.out]; exact Nat.le_refl _), List.append_nil] at hXX
    have hfin := fin wr _ (own_weak (by rw [← hXX]; exact HO.out) hB0.size) hBw
    obtain ⟨av, cv, hv, _⟩ := row_form HO.out
    subst hv
    clear HX hXX HO fin hfd hfz
    go_wp2
    go_end0
    exact ⟨rfl, hfin⟩
   | false =>
    have hXX := HX.out
    simp only [Bool.false_eq_true, if_false] at hXX
    obtain ⟨hL0, hsm⟩ := hXX
    rw [List.take_of_length_le (by rw [HN.out]; exact Nat.le_refl _)] at hL0
    have hPe : L ++ [(s, f)] = P := by
     have h := put_split (f := f) hsm (q := []) (fun y hy => by cases hy)
     rw [List.append_nil, hL0] at h
     rw [← HP.out, h, hL0]
    have HPe : Hid (L ++ [(s, f)] = P) := hPe
    have HOd := HO.out
    clear HX HO hL0 hPe
    go_wp2_with (first
     | (at_builtin; refine wp_app1 91 113 (.agg #[.string ByteArray.empty, .slice none 0 0, .int .i64 0]) 3 48 Tryz.underlying91 infoFile rfl (by decide) (by decide) rfl _ _ rfl w0.heap.size _ L.length _ rfl HOd #[.string s, .slice a n c, .int .i64 (f.safe : Int)] rfl (by simp [Value.oneCell']) rfl (by omega) HB.out.size ?_; intro v' w1 ho1 hk1 hv1; obtain ⟨av, cv, rfl, _⟩ := row_form ho1; have hB1' := HB.out.trans (hk1.below HB.out.size (fun j hj => (HOd.lt j hj).1)); have hBw1' : Below w.heap.size w w1 := hB0.trans (hB1'.mono hB0.size); have g0 := hfd w1 hBw1'; have g1 := hfz w1 hBw1'))
    have hB1 : Below w0.heap.size w0 w1 := HB.out.trans (hk1.below HB.out.size (fun j hj => (HOd.lt j hj).1))
    have hBw1 : Below w.heap.size w w1 := hB0.trans (hB1.mono hB0.size)
    go_end0
    refine ⟨rfl, fin w1 _ (own_weak ?_ hB0.size) hBw1⟩
    have e : P.length = L.length + 1 := by rw [← HPe.out]; simp
    rw [e, ← HPe.out, ev_snoc]
    show World.ownsRow _ _ _ _ _ _ (ev sl' L ++ [.string s, sl' s, .int .i64 (f.safe : Int)])
    rw [Hss.out]
    exact ho1
end Go.Proofs.YtikkieaokfailaaGreatDoor

namespace Go.Proofs.YtikkieaokfailaaGreatDoor
open Go.RowKit Go.Joins
theorem own_set {w : World} {B sz n cap g : Nat} {t : TypeId} {xs : List Value} (h : w.ownsRow B t sz (.slice (some ⟨g, 0, none⟩) n cap) n xs) {i : Nat} (u : Value) : (w.setCell ⟨g, i, none⟩ u).ownsRow B t sz (.slice (some ⟨g, 0, none⟩) n cap) n (xs.set i u) := by
 obtain ⟨h1, h2⟩ := h
 refine ⟨by rw [List.length_set]; exact h1, ?_⟩
 rcases h2 with ⟨h2, _⟩ | ⟨g', cap', cur, hv, hg, hh, hn, hc, hs, ht⟩
 ·cases h2
 ·cases hv
  refine Or.inr ⟨g, cap, cur.setIfInBounds i u, rfl, hg, block_setCell hh u, hn, hc, by simp [hs], ?_⟩
  rw [Array.toList_setIfInBounds, List.take_set, ht]
theorem ev_mid (sl : Nm → Value) (p q : Fls) (s : Nm) (f : Fle) : ev sl (p ++ (s, f) :: q) = ev sl p ++ (.string s :: sl s :: .int .i64 (f.safe : Int) :: ev sl q) := by rw [ev_app]; rfl
theorem ev_setB (sl sl' : Nm → Value) (p q : Fls) (s : Nm) (f : Fle) (b' : List Int) (v : Value) (hs : sl' s = v) (hp : ∀ x ∈ p, sl' x.1 = sl x.1) (hq : ∀ x ∈ q, sl' x.1 = sl x.1) : (ev sl (p ++ (s, f) :: q)).set (p.length * 3 + 1) v = ev sl' (p ++ (s, ⟨b', f.safe⟩) :: q) := by
 rw [ev_mid, ev_mid, hs, ← ev_congr hp, ← ev_congr hq, List.set_append_right _ _ (by rw [ev_len]; omega), ev_len]
 rw [ev_congr hp]
 congr 1
 rw [show p.length * 3 + 1 - p.length * 3 = 1 by omega, ev_congr hq]
 rfl
theorem ev_setS (sl : Nm → Value) (p q : Fls) (s : Nm) (f : Fle) (n : Nat) : (ev sl (p ++ (s, f) :: q)).set (p.length * 3 + 2) (.int .i64 (n : Int)) = ev sl (p ++ (s, ⟨f.b, n⟩) :: q) := by
 rw [ev_mid, ev_mid, List.set_append_right _ _ (by rw [ev_len]; omega), ev_len]
 congr 1
 rw [show p.length * 3 + 2 - p.length * 3 = 2 by omega]
 rfl
theorem split_at {l : Fls} {j : Nat} {s : Nm} {f : Fle} (h : l[j]? = some (s, f)) : ∃ p q, l = p ++ (s, f) :: q ∧ p.length = j := by
 have hj : j < l.length := (List.getElem?_eq_some_iff.1 h).1
 have he : l[j] = (s, f) := (List.getElem?_eq_some_iff.1 h).2
 refine ⟨l.take j, l.drop (j + 1), ?_, by rw [List.length_take]; omega⟩
 rw [← he, ← List.drop_eq_getElem_cons hj, List.take_append_drop]
theorem RefAt.setB {w w0 : World} {G : Nat → Prop} {rd : Nat} {k : Dk} {s : Nm} {f : Fle} {j : Nat} {b' : List Int} {v : Value} (h : RefAt w0 G rd k) (hb : Below w0.heap.size w0 w) (hix : k.fs[j]? = some (s, f))
  (hv : w.ownsRow w0.heap.size 5 1 v b'.length (bc b')) (hg : ({ k with fs := putL k.fs s ⟨b', f.safe⟩ } : Dk).Good) :
  ∃ g cap, w.cell? ⟨rd, 0, none⟩ = some (.slice (some ⟨g, 0, none⟩) k.fs.length cap) ∧ k.fs.length ≤ cap ∧ (∃ u, w.cell? ⟨g, j * 3 + 1, none⟩ = some u) ∧ w.frozen? ⟨g, j * 3 + 1, none⟩ = false ∧ Rp w0 G rd { k with fs := putL k.fs s ⟨b', f.safe⟩ } (w.setCell ⟨g, j * 3 + 1, none⟩ v) := by
 have hjl : j < k.fs.length := (List.getElem?_eq_some_iff.1 hix).1
 have hlt := h.lt
 have hrise := h.good.rise
 obtain ⟨⟨v0, sl, hblk, hrow, hvG, hlies, hslv⟩, hGrd, _, _⟩ := h
 obtain ⟨g, cap, e, hcap, _, hcs⟩ := row3 hrow (by omega)
 subst e
 have hgl := hrow.lt g rfl
 have hblkw := box_below hblk hb
 have hroww := own_keep (S := fun _ => False) hrow (Keep.ofBelow hb) (fun _ _ h => h)
 obtain ⟨cur, hcur⟩ := own_blk hroww (g := g) rfl
 have hgne : g ≠ rd := fun e => by subst e; rw [hblkw] at hcur; cases hcur
 have hcell := (hb.cell (p := ⟨g, j * 3 + 1, none⟩) hgl.2).trans (hcs j (s, f) hix).2.1
 refine ⟨g, cap, by rw [cell_of_block hblkw]; rfl, hcap, ⟨_, hcell⟩, unfrozen_of_block hcur _, ?_⟩
 obtain ⟨p, q, hl, hp⟩ := split_at hix
 have hr2 : Rise (p ++ (s, f) :: q) := by rw [← hl]; exact hrise
 have hput : putL k.fs s ⟨b', f.safe⟩ = p ++ (s, ⟨b', f.safe⟩) :: q := by rw [hl]; exact put_mid hr2
 have hnp : ∀ x ∈ p, x.1 ≠ s := fun x hx e => by
  have hnd := rise_nodup hr2
  rw [List.map_append, List.map_cons] at hnd
  have := (List.nodup_append.1 hnd).2.2 x.1 (List.mem_map_of_mem hx) s (List.mem_cons_self ..)
  exact this e
 have hnq : ∀ x ∈ q, x.1 ≠ s := fun x hx e => by
  have hnd := rise_nodup hr2
  rw [List.map_append, List.map_cons] at hnd
  have h2 := (List.nodup_cons.1 (List.nodup_append.1 hnd).2.1).1
  exact h2 (List.mem_map.2 ⟨x, hx, e⟩)
 obtain ⟨sl', hsl'⟩ : ∃ sl' : Nm → Value, sl' = fun t => if t = s then v else sl t := ⟨_, rfl⟩
 have hss : sl' s = v := by rw [hsl']; simp
 have hso : ∀ t, t ≠ s → sl' t = sl t := fun t ht => by rw [hsl']; simp [ht]
 have hone : ∀ t, ∃ a n c, sl' t = .slice a n c := fun t => by
  by_cases h : t = s
  ·rw [h, hss]
   obtain ⟨a, c, e, _⟩ := Rd.ofRowE hv
   exact ⟨a, _, c, e⟩
  ·rw [hso t h]; exact hslv t
 have hkS : Keep (fun i => i = g) w (w.setCell ⟨g, j * 3 + 1, none⟩ v) := (Keep.refl (fun i => i = g) w).setCell (p := ⟨g, j * 3 + 1, none⟩) rfl _
 have hk0 : Keep (fun i => i = g) w0 (w.setCell ⟨g, j * 3 + 1, none⟩ v) := (Keep.ofBelow hb).trans hkS
 have hsz : (w.setCell ⟨g, j * 3 + 1, none⟩ v).heap.size = w.heap.size := by simp [World.setCell]
 refine ⟨fun i => G i ∨ (w0.heap.size ≤ i ∧ i < w.heap.size), ⟨⟨.slice (some ⟨g, 0, none⟩) k.fs.length cap, sl', ?_, ?_, ?_, ?_, hone⟩, Or.inl hGrd, ?_, hg⟩, hk0.mono (fun i e => by subst e; exact hvG _ rfl), fun i hi => hi.imp id (fun h => h.1)⟩
 ·exact box_keep hblkw hkS (fun e => hgne e.symm)
 ·show World.ownsRow _ _ _ _ _ (putL k.fs s ⟨b', f.safe⟩).length (ev sl' (putL k.fs s ⟨b', f.safe⟩))
  have hlen : (putL k.fs s ⟨b', f.safe⟩).length = k.fs.length := by rw [hput, hl]; simp
  rw [hlen, hput, ← ev_setB sl sl' p q s f b' v hss (fun x hx => hso _ (hnp x hx)) (fun x hx => hso _ (hnq x hx)), ← hl, hp]
  exact own_set hroww v
 ·intro g' hg'
  exact Or.inl (hvG g' hg')
 ·intro x hx
  have hm : x ∈ putL k.fs s ⟨b', f.safe⟩ := hx
  rw [hput] at hm
  rcases List.mem_append.1 hm with hx | hx
  ·rw [hso _ (hnp x hx)]
   have hin : x ∈ k.fs := by rw [hl]; exact List.mem_append_left _ hx
   refine (hlies x hin).keep hk0 (fun g' hg' e => ?_) (fun _ h => Or.inl h)
   obtain ⟨cur', h2⟩ := own_blk (hlies x hin).1 hg'
   subst e
   obtain ⟨cur2, h3⟩ := own_blk hrow (g := g') rfl
   rw [h3] at h2; cases h2
  ·rcases List.mem_cons.1 hx with rfl | hx
   ·show Lies _ _ (sl' s) _
    rw [hss]
    refine ⟨own_weak (own_keep hv hkS (fun g' hg' e => ?_)) (Nat.zero_le _), fun g' hg' => Or.inr (hv.lt g' hg')⟩
    have := (hv.lt g' hg').1
    have := hgl.2
    omega
   ·rw [hso _ (hnq x hx)]
    have hin : x ∈ k.fs := by rw [hl]; exact List.mem_append_right _ (List.mem_cons_of_mem _ hx)
    refine (hlies x hin).keep hk0 (fun g' hg' e => ?_) (fun _ h => Or.inl h)
    obtain ⟨cur', h2⟩ := own_blk (hlies x hin).1 hg'
    subst e
    obtain ⟨cur2, h3⟩ := own_blk hrow (g := g') rfl
    rw [h3] at h2; cases h2
 ·intro i hi
  rw [hsz]
  rcases hi with h | h
  ·exact Nat.lt_of_lt_of_le (hlt i h) hb.size
  ·exact h.2
theorem pass_with (k : Dk) (l : Fls) : passK { k with fs := l } = ((passK k).1, { (passK k).2 with fs := l }) := by
 unfold passK
 dsimp only
 cases k.fu with
 | none => rfl
 | some n => cases n <;> rfl
theorem put_put (l : Fls) (hr : Rise l) (s : Nm) (f g : Fle) : putL (putL l s f) s g = putL l s g := by
 induction l with
 | nil =>
  rw [show putL [] s f = [(s, f)] from rfl, show putL [] s g = [(s, g)] from rfl]
  conv => lhs; unfold putL
  rw [if_neg (ltN_irrefl s), if_pos rfl]
 | cons q r ih =>
  obtain ⟨n, x⟩ := q
  conv => rhs; unfold putL
  rw [show putL ((n, x) :: r) s f = (if ltN s n then (s, f) :: (n, x) :: r else if n = s then (s, f) :: r else (n, x) :: putL r s f) by rfl]
  split
  ·unfold putL
   rw [if_neg (ltN_irrefl s), if_pos rfl]
  ·rename_i h1
   split
   ·unfold putL
    rw [if_neg (ltN_irrefl s), if_pos rfl]
   ·rename_i h2
    conv => lhs; unfold putL
    rw [if_neg h1, if_neg h2, ih hr.2]
set_option maxRecDepth 100000 in
set_option maxHeartbeats 4000000 in
theorem refAppend_any (rd : Nat) (G : Nat → Prop) (k : Dk) (s : Nm) (hs : s.size ≤ 9223372036854775807) (a : Option Addr) (n c : Nat) (ys : List Int) (hst : k.steps < 1000000) (hfl : k.fs.length < 999999) (w : World) (hR : RefAt w G rd k) (hY : Rd w a n c ys) (hYG : ∀ ad, a = some ad → ¬ G ad.block) :
  Calls Tryz.prog 18 #[.pointer (some ⟨rd, 0, none⟩), .string s, .slice a n c] w fun e w' => e = .returned (.int .i64 (appK k s ys).1) ∧ Rp w G rd (appK k s ys).2 w' := by
 have hF := first_any rd G k s hs false w hR
 have hgood := hR.good
 have hroom := hgood.room
 have husd := hgood.used
 by_cases h0 : firstK k s false = 0
 ·rw [h0] at hF
  have hon : k.off = false ∧ isNm s = true := by
   unfold firstK at h0
   cases h1 : k.off <;> cases h2 : isNm s <;> simp_all
  obtain ⟨on, hnm⟩ := hon
  have hU := fun w hR => refUsed_any rd G k w hR
  have hq1 : w.cell? ⟨rd, 1, none⟩ = some (.int .i64 (k.room : Int)) := by
   obtain ⟨⟨v, sl, hblk, _⟩, _⟩ := hR
   rw [cell_of_block hblk]; rfl
  have hw1 : IntKind.i64.wrap ((k.room : Int) - (used k.fs : Int)) = (k.room : Int) - (used k.fs : Int) := by rw [IntKind.wrap_i64]; omega
  have hlen1 := fun w => len_slice a n c 29 3 w Tryz.underlying29
  by_cases hfit : n + used k.fs ≤ k.room
  ·have ep : appK k s ys = passK { k with fs := putL k.fs s ⟨((look k.fs s).map Fle.b).getD [] ++ ys, ((look k.fs s).map Fle.safe).getD 0⟩ } := by
    unfold appK
    rw [on, hnm, hY.len]
    simp [hfit]
   rw [ep, pass_with]
   have hng : ¬ (k.room : Int) - (used k.fs : Int) < (n : Int) := by omega
   have hgt : decide ((k.room : Int) - (used k.fs : Int) < (n : Int)) = false := by simp; omega
   have hPw := fun w hR => power_any rd G k hst w hR
   have hgp := good_pass hgood
   have hpfs := pass_fs k
   obtain ⟨P, HPe⟩ : ∃ P, Hid (passK k = P) := ⟨_, rfl⟩
   rw [HPe.out] at hPw hgp hpfs ⊢
   obtain ⟨en, k1⟩ := P
   dsimp only at hPw hgp hpfs ⊢
   have hproom : k1.room = k.room := by have h := HPe.out; unfold passK at h; split at h <;> (cases h; rfl)
   have hYk : ∀ (S : Nat → Prop) w', Keep S w w' → (∀ i, S i → G i ∨ w.heap.size ≤ i) → Rd w' a n c ys := fun S w' hk hS => ⟨hY.len, hY.cap, hY.most, hY.nil, hY.bytes, fun ad ha j hj => hk.cell (hY.cells ad ha j hj) (fun h => by
    have hlt := World.block_lt_of_cell? w _ (hY.cells ad ha j hj)
    have e : (ad.add j).block = ad.block := by unfold Addr.add; split <;> rfl
    rcases hS _ h with h | h
    ·rw [e] at h; exact hYG ad ha h
    ·omega)⟩
   clear ep
   go_enter Tryz.func18, Tryz.ntmps18
   go_upto_region 4 with (first
    | (go_at_call 55; refine hF.mono ?_; rintro e w1 ⟨rfl, rfl⟩))
   refine wp_region_lx (fun w' => w' = w1.drew) [] 10 (by kernel_rfl) (by kernel_rfl) ?_
   have hbX : Below w1.heap.size w1 w1.drew := (Below.refl _ _).drew
   have hRX := hR.below hbX
   have p1 : w1.drew.cell? ⟨rd, 1, none⟩ = some (.int .i64 (k.room : Int)) := hq1
   clear hq1 hF
   generalize w1.drew = X at *
   have HS0 : X = X := rfl
   refine lx_r 0 _ HS0 ?_; simp only [lxa, lxb, lxc]
   refine lx_r 1 (.int .i64 n) HS0 ?_ (hv := fun w' hS => by subst hS; first | (go_simp; rfl) | go_simp); simp only [lxa, lxb, lxc]
   refine lx_r 2 _ HS0 ?_; simp only [lxa, lxb, lxc]
   refine lx_r 3 _ HS0 ?_; simp only [lxa, lxb, lxc]
   refine lx_r 4 _ HS0 ?_; simp only [lxa, lxb, lxc]
   refine lx_r 5 (.int .i64 k.room) HS0 ?_ (hv := fun w' hS => by subst hS; first | (go_simp; rfl) | go_simp); simp only [lxa, lxb, lxc]
   refine lx_r 6 _ HS0 ?_; simp only [lxa, lxb, lxc]
   refine lx_one 7 (by kernel_rfl) (stepT_call 44 ?ga7 rfl rfl rfl ?gr7 ?_)
   case gr7 => first | (go_simp; rfl) | go_simp
   refine (hU _ hRX).mono ?_
   rintro e w4 ⟨rfl, hw4⟩
   replace hw4 := hw4.symm
   subst hw4
   refine ⟨_, rfl, fun _ => rfl, ?_⟩
   simp only [lxa, lxb, lxc]
   refine lx_r 8 (.int .i64 ((k.room : Int) - used k.fs)) HS0 ?_; simp only [lxa, lxb, lxc]
   refine lx_r 9 (.bool false) HS0 ?_; simp only [lxa, lxb, lxc]
   refine lx_nil (by kernel_rfl) ?_
   replace hPw := hPw X hRX
   have hus := hgood.used
   clear HS0 p1 hw1 hlen1 hU HPe
   go_upto_region 7 with (first
    | (go_at_call 56; refine hPw.mono ?_; rintro e w2 ⟨rfl, G2, hR2, hk2, hG2⟩))
   have hk2' : Keep G w1 w2 := (Keep.ofBelow hbX).trans hk2
   have hG2' : ∀ i, G2 i → G i ∨ w1.heap.size ≤ i := fun i hi => (hG2 i hi).imp id (fun h => Nat.le_trans hbX.size h)
   have hA := fun w G k hR => at_any rd G k s w hR
   cases hlk : look k.fs s with
   | none =>
    have HLK : Hid (look k.fs s = none) := hlk
    have hlk1 : look k1.fs s = none := by rw [hpfs]; exact hlk
    have hA1 := hA w2 G2 k1 hR2
    rw [ixL_none hlk1] at hA1
    have hu0 := used_put k.fs hgood.rise s ⟨[], 0⟩
    have hgK : ({ k1 with fs := putL k1.fs s ⟨[], 0⟩ } : Dk).Good := good_put hgp hnm (Nat.le_refl _) Bd.nil (by rw [hpfs] ; rw [hlk] at hu0 ; have h1 := hgp.used ; rw [hpfs] at h1 ; have h2 : lenO none = 0 := rfl ; rw [h2] at hu0 ; have h3 : ([] : List Int).length = 0 := rfl ; rw [h3] at hu0 ; omega)
    have hPt := refPut_any rd G2 k1 s hlk1 ⟨[], 0⟩ none 0 0 (by rw [hpfs]; omega) w2 hR2 hgK ⟨⟨rfl, Or.inl ⟨rfl, rfl⟩⟩, fun g hg => by cases hg⟩
    obtain ⟨K2, hK2⟩ : ∃ K2 : Dk, K2 = { k1 with fs := putL k1.fs s ⟨[], 0⟩ } := ⟨_, rfl⟩
    rw [← hK2] at hPt
    have hrise1 : Rise k1.fs := by rw [hpfs]; exact hgood.rise
    have hlk2 : look K2.fs s = some ⟨[], 0⟩ := by rw [hK2]; show look (putL k1.fs s ⟨[], 0⟩) s = _; rw [look_put _ hrise1, if_pos rfl]
    obtain ⟨j, hj, hix0, hjl⟩ := ixL_some hlk2 0
    rw [Nat.zero_add] at hj
    have hup := used_put k.fs hgood.rise s ⟨[] ++ ys, 0⟩
    rw [hlk] at hup
    have hfin : ({ K2 with fs := putL K2.fs s ⟨(⟨[], 0⟩ : Fle).b ++ ys, (⟨[], 0⟩ : Fle).safe⟩ } : Dk) = { k1 with fs := putL k.fs s ⟨((none : Option Fle).map Fle.b).getD [] ++ ys, ((none : Option Fle).map Fle.safe).getD 0⟩ } := by
     rw [hK2]
     dsimp only
     rw [put_put _ hrise1, hpfs]
     rfl
    have hgN : ({ K2 with fs := putL K2.fs s ⟨(⟨[], 0⟩ : Fle).b ++ ys, (⟨[], 0⟩ : Fle).safe⟩ } : Dk).Good := by
     rw [hfin]
     have h := good_put (f := ⟨[] ++ ys, 0⟩) hgp hnm (Nat.zero_le _) hY.bytes (by
      rw [hpfs]
      have h2 : lenO none = 0 := rfl
      have h3 : (⟨[] ++ ys, 0⟩ : Fle).b.length = n := hY.len
      have h4 := hproom
      rw [h2, h3] at hup
      omega)
     rw [hpfs] at h
     exact h
    have hbd : Bd (⟨[], 0⟩ : Fle).b := Bd.nil
    have hfle : (⟨[], 0⟩ : Fle).b.length ≤ 16777216 := Nat.zero_le _
    obtain ⟨f, hfe⟩ : ∃ f : Fle, (⟨[], 0⟩ : Fle) = f := ⟨_, rfl⟩
    rw [hfe] at hfin hgN hbd hfle hix0
    have hix : Hid (K2.fs[j]? = some (s, f)) := hix0
    obtain ⟨N, HN⟩ : ∃ N, Hid (K2.fs.length = N) := ⟨_, rfl⟩
    rw [HN.out] at hjl
    have hA2 := fun w G hR => hA w G K2 hR
    rw [hj] at hA2
    clear hlk hlk1 hlk2 hix0 hj hup hu0 hA hgK hfe hK2
    go_upto_region 8 with (first
     | (go_at_call 57; refine hA1.mono ?_; rintro e w3 ⟨rfl, hw3⟩; replace hw3 := hw3.symm; subst hw3))
    go_upto_region 9 with (first
     | (go_at_call 58; refine hPt.mono ?_; rintro e V ⟨rfl, GV, hRV, hkV0, hGV0⟩))
    replace hA2 := hA2 V GV hRV
    have hkV : Keep G w1 V := hk2'.andThen hkV0 (fun i hi h => (hG2' i h).elim id (fun h => absurd h (by omega)))
    have hGV : ∀ i, GV i → G i ∨ w1.heap.size ≤ i := fun i hi => (hGV0 i hi).elim (hG2' i) (fun h => Or.inr (Nat.le_trans hk2'.size h))
    have hYV := hYk G V hkV (fun i h => Or.inl h)
    clear hA1 hPt hR2 hk2 hG2 hkV0 hGV0 hRX
    go_upto_region 10 with (first
     | (go_at_call 57; refine hA2.mono ?_; rintro e w3 ⟨rfl, hw3⟩; replace hw3 := hw3.symm; subst hw3))
    have hjN0 : (0 : Int) ≤ (j : Int) := by omega
    have hjN : (j : Int) < (N : Int) := by omega
    refine wp_region_lx (fun w' => Below V.drew.heap.size V.drew w') [19] 20 (by kernel_rfl) (by kernel_rfl) ?_
    have hVX : Below V.heap.size V V.drew := (Below.refl _ _).drew
    have hRX := hRV.below hVX
    have hYX := hYV.carry (Nat.le_refl _) hVX
    obtain ⟨g0, cap0, q0, hcap0, hcB0⟩ : ∃ g cap, V.drew.cell? ⟨rd, 0, none⟩ = some (.slice (some ⟨g, 0, none⟩) N cap) ∧ N ≤ cap ∧ ∃ aj cj, V.drew.cell? ⟨g, j * 3 + 1, none⟩ = some (.slice aj f.b.length cj) ∧ Rd V.drew aj f.b.length cj f.b := by
     obtain ⟨⟨v, sl, hblk, hrow, hvG, hlies, _⟩, _, _, _⟩ := hRX
     obtain ⟨g, cap, e, hcap, _, hcs⟩ := row3 hrow (by rw [HN.out]; omega)
     subst e
     refine ⟨g, cap, by rw [cell_of_block hblk, ← HN.out]; rfl, by rw [← HN.out]; exact hcap, ?_⟩
     have hl := (hlies (s, f) (List.mem_of_getElem? hix.out)).1
     obtain ⟨aj, cj, ev, _⟩ := Rd.ofRowE hl
     have hc := (hcs j (s, f) hix.out).2.1
     rw [ev] at hc hl
     exact ⟨aj, cj, hc, Rd.ofRow hl hbd⟩
    obtain ⟨aj, cj, q1, hRj⟩ := hcB0
    obtain ⟨ln, HLn⟩ : ∃ ln, Hid (f.b.length = ln) := ⟨_, rfl⟩
    rw [HLn.out] at q1 hRj hfle
    have hcF : ∀ w', Below V.drew.heap.size V.drew w' → w'.cell? ⟨rd, 0, none⟩ = some (.slice (some ⟨g0, 0, none⟩) N cap0) := fun w' hb => (hb.cell (p := ⟨rd, 0, none⟩) (World.block_lt_of_cell? V _ q0)).trans q0
    have hcB : ∀ w', Below V.drew.heap.size V.drew w' → w'.cell? ⟨g0, j * 3 + 1, none⟩ = some (.slice aj ln cj) := fun w' hb => (hb.cell (p := ⟨g0, j * 3 + 1, none⟩) (World.block_lt_of_cell? V _ q1)).trans q1
    clear q0 q1 hRV hYV
    generalize V.drew = X at *
    have HSX : Below X.heap.size X X := Below.refl _ _
    refine lx_r 0 _ HSX ?_; simp only [lxa, lxb, lxc]
    refine lx_r 1 _ HSX ?_; simp only [lxa, lxb, lxc]
    refine lx_r 2 _ HSX ?_; simp only [lxa, lxb, lxc]
    refine lx_r 3 (.slice (some ⟨g0, 0, none⟩) N cap0) HSX ?_ (hv := fun w' hS => by have q := hcF _ hS; first | (go_simp; rfl) | go_simp); simp only [lxa, lxb, lxc]
    refine lx_r 4 _ HSX ?_; simp only [lxa, lxb, lxc]
    refine lx_r 6 _ HSX ?_; simp only [lxa, lxb, lxc]
    refine lx_r 7 _ HSX ?_; simp only [lxa, lxb, lxc]
    refine lx_r 8 _ HSX ?_; simp only [lxa, lxb, lxc]
    refine lx_r 9 (.slice (some ⟨g0, 0, none⟩) N cap0) HSX ?_ (hv := fun w' hS => by have q := hcF _ hS; first | (go_simp; rfl) | go_simp); simp only [lxa, lxb, lxc]
    refine lx_r 10 _ HSX ?_; simp only [lxa, lxb, lxc]
    refine lx_r 11 (.pointer (some ⟨g0, j * 3, none⟩)) HSX ?_; simp only [lxa, lxb, lxc]
    refine lx_r 12 (.pointer (some ⟨g0, j * 3 + 1, none⟩)) HSX ?_; simp only [lxa, lxb, lxc]
    refine lx_r 13 (.slice aj ln cj) HSX ?_ (hv := fun w' hS => by have q := hcB _ hS; first | (go_simp; rfl) | go_simp); simp only [lxa, lxb, lxc]
    refine lx_r 15 _ HSX ?_; simp only [lxa, lxb, lxc]
    have hX0 : Below X.heap.size X (X.alloc (.cells #[] 5)) := (Below.refl _ _).alloc (Nat.le_refl _) _
    have hemp : (X.alloc (.cells #[] 5)).ownsRow X.heap.size 5 1 (.slice (some ⟨X.heap.size, 0, none⟩) 0 0) 0 (bc []) := World.ownsRow_made X #[] 0 (Nat.le_refl _) (by unfold maxLen; omega) rfl
    refine lx_one 5 (by kernel_rfl) (stepT_val (w' := X.alloc (.cells #[] 5)) (.slice (some ⟨X.heap.size, 0, none⟩) 0 0) rfl rfl rfl ?r5n (fun _ => hX0) ?_)
    case r5n => first | (go_simp; rfl) | go_simp
    simp only [lxa, lxb, lxc]
    obtain ⟨v5, w5, hrun5, o5, hb5⟩ := run_appJ 29 hemp (hRj.carry (Nat.le_refl _) hX0) (by omega) hX0.size
    have hb5' := hX0.trans hb5
    refine lx_one 14 (by kernel_rfl) (stepT_val (w' := w5) v5 rfl rfl rfl (exec_appJ rfl rfl rfl hrun5) (fun _ => hb5') ?_)
    simp only [lxa, lxb, lxc]
    rw [Nat.zero_add, List.nil_append] at o5
    obtain ⟨v6, w6, hrun6, o6, hb6⟩ := run_appJ 29 o5 (hYX.carry (Nat.le_refl _) hb5') (by omega) hb5'.size
    have hb6' := hb5'.trans hb6
    refine lx_one 16 (by kernel_rfl) (stepT_val (w' := w6) v6 rfl rfl rfl (exec_appJ rfl rfl rfl hrun6) (fun _ => hb6') ?_)
    simp only [lxa, lxb, lxc]
    obtain ⟨a6, c6, rfl, hn6⟩ := Rd.ofRowE o6
    have hbl : (f.b ++ ys).length = ln + n := by rw [List.length_append, HLn.out, hY.len]
    have o6' : w6.ownsRow X.heap.size 5 1 (.slice a6 (ln + n) c6) (f.b ++ ys).length (bc (f.b ++ ys)) := by rw [hbl]; exact o6
    obtain ⟨g, cap, r0, hcap, ⟨u, r1⟩, r2, hRp⟩ := hRX.setB hb6' hix.out o6' hgN
    have hgg : g = g0 := by have h := hcF _ hb6'; rw [r0] at h; injection h with h; injection h with h _ _; injection h with h; injection h
    subst hgg
    refine lx_one 17 (by kernel_rfl) (stepT_val (w' := w6) (.pointer (some ⟨g, j * 3, none⟩)) rfl rfl rfl ?r17n (fun _ => hb6') ?_)
    case r17n => first | (go_simp; rfl) | go_simp
    simp only [lxa, lxb, lxc]
    refine lx_one 18 (by kernel_rfl) (stepT_val (w' := w6) (.pointer (some ⟨g, j * 3 + 1, none⟩)) rfl rfl rfl ?r18n (fun _ => hb6') ?_)
    case r18n => first | (go_simp; rfl) | go_simp
    simp only [lxa, lxb, lxc]
    refine lx_one 19 (by kernel_rfl) (stepT_store (w' := w6.setCell ⟨g, j * 3 + 1, none⟩ (.slice a6 (ln + n) c6)) rfl rfl rfl ?r19n (fun h => by cases h) ?_)
    case r19n => first | (go_simp; rfl) | go_simp
    refine lx_nil (by kernel_rfl) ?_
    go_wp2
    go_ret
    refine ⟨rfl, ?_⟩
    rw [hfin] at hRp
    rw [HLK.out]
    exact Rp.next hkV hGV (Rp.next (Keep.ofBelow hVX) (fun i hi => Or.inl hi) hRp)
   | some f =>
    have HLK : Hid (look k.fs s = some f) := hlk
    have hlk1 : look k1.fs s = some f := by rw [hpfs]; exact hlk
    obtain ⟨j, hj, hix0, hjl⟩ := ixL_some hlk1 0
    rw [Nat.zero_add] at hj
    have hA1 := hA w2 G2 k1 hR2
    rw [hj] at hA1
    have hjn : ¬ (j : Int) < 0 := by omega
    obtain ⟨_, hsf, hbd⟩ := look_good hgood hlk
    have hup := used_put k.fs hgood.rise s ⟨f.b ++ ys, f.safe⟩
    rw [hlk] at hup
    have hfin : ({ k1 with fs := putL k1.fs s ⟨f.b ++ ys, f.safe⟩ } : Dk) = { k1 with fs := putL k.fs s ⟨((some f).map Fle.b).getD [] ++ ys, ((some f).map Fle.safe).getD 0⟩ } := by
     rw [hpfs]
     rfl
    have hgN : ({ k1 with fs := putL k1.fs s ⟨f.b ++ ys, f.safe⟩ } : Dk).Good := good_put hgp hnm (by show f.safe ≤ (f.b ++ ys).length; rw [List.length_append]; omega) (hbd.append hY.bytes) (by
     rw [hpfs]
     have h2 : lenO (some f) = f.b.length := rfl
     have h3 : (⟨f.b ++ ys, f.safe⟩ : Fle).b.length = f.b.length + n := by show (f.b ++ ys).length = _; rw [List.length_append, hY.len]
     have h4 := hproom
     rw [h2, h3] at hup
     omega)
    have hfle : f.b.length ≤ 16777216 := Nat.le_trans (used_mem (look_mem hlk)) (Nat.le_trans hgood.used hgood.room)
    have hix : Hid (k1.fs[j]? = some (s, f)) := hix0
    obtain ⟨N, HN⟩ : ∃ N, Hid (k1.fs.length = N) := ⟨_, rfl⟩
    rw [HN.out] at hjl
    have hkV : Keep G w1 w2 := hk2'
    have hGV := hG2'
    have hYV := hYk G w2 hkV (fun i h => Or.inl h)
    have hRV := hR2
    clear hlk hlk1 hix0 hj hup hA hR2 hk2 hG2 hRX
    have tk1 : True := trivial
    have hA2 := hA1
    go_upto_region 10 with (first
     | (go_at_call 57; clear tk1; refine hA1.mono ?_; clear hA1; rintro e w3 ⟨rfl, hw3⟩; replace hw3 := hw3.symm; subst hw3)
     | (go_at_call 57; refine hA2.mono ?_; rintro e w3 ⟨rfl, hw3⟩; replace hw3 := hw3.symm; subst hw3))
    have hjN0 : (0 : Int) ≤ (j : Int) := by omega
    have hjN : (j : Int) < (N : Int) := by omega
    refine wp_region_lx (fun w' => Below w2.drew.heap.size w2.drew w') [19] 20 (by kernel_rfl) (by kernel_rfl) ?_
    have hVX : Below w2.heap.size w2 w2.drew := (Below.refl _ _).drew
    have hRX := hRV.below hVX
    have hYX := hYV.carry (Nat.le_refl _) hVX
    obtain ⟨g0, cap0, q0, hcap0, hcB0⟩ : ∃ g cap, w2.drew.cell? ⟨rd, 0, none⟩ = some (.slice (some ⟨g, 0, none⟩) N cap) ∧ N ≤ cap ∧ ∃ aj cj, w2.drew.cell? ⟨g, j * 3 + 1, none⟩ = some (.slice aj f.b.length cj) ∧ Rd w2.drew aj f.b.length cj f.b := by
     obtain ⟨⟨v, sl, hblk, hrow, hvG, hlies, _⟩, _, _, _⟩ := hRX
     obtain ⟨g, cap, e, hcap, _, hcs⟩ := row3 hrow (by rw [HN.out]; omega)
     subst e
     refine ⟨g, cap, by rw [cell_of_block hblk, ← HN.out]; rfl, by rw [← HN.out]; exact hcap, ?_⟩
     have hl := (hlies (s, f) (List.mem_of_getElem? hix.out)).1
     obtain ⟨aj, cj, ev, _⟩ := Rd.ofRowE hl
     have hc := (hcs j (s, f) hix.out).2.1
     rw [ev] at hc hl
     exact ⟨aj, cj, hc, Rd.ofRow hl hbd⟩
    obtain ⟨aj, cj, q1, hRj⟩ := hcB0
    obtain ⟨ln, HLn⟩ : ∃ ln, Hid (f.b.length = ln) := ⟨_, rfl⟩
    rw [HLn.out] at q1 hRj hfle
    have hcF : ∀ w', Below w2.drew.heap.size w2.drew w' → w'.cell? ⟨rd, 0, none⟩ = some (.slice (some ⟨g0, 0, none⟩) N cap0) := fun w' hb => (hb.cell (p := ⟨rd, 0, none⟩) (World.block_lt_of_cell? w2 _ q0)).trans q0
    have hcB : ∀ w', Below w2.drew.heap.size w2.drew w' → w'.cell? ⟨g0, j * 3 + 1, none⟩ = some (.slice aj ln cj) := fun w' hb => (hb.cell (p := ⟨g0, j * 3 + 1, none⟩) (World.block_lt_of_cell? w2 _ q1)).trans q1
    clear q0 q1 hRV hYV
    generalize w2.drew = X at *
    have HSX : Below X.heap.size X X := Below.refl _ _
    refine lx_r 0 _ HSX ?_; simp only [lxa, lxb, lxc]
    refine lx_r 1 _ HSX ?_; simp only [lxa, lxb, lxc]
    refine lx_r 2 _ HSX ?_; simp only [lxa, lxb, lxc]
    refine lx_r 3 (.slice (some ⟨g0, 0, none⟩) N cap0) HSX ?_ (hv := fun w' hS => by have q := hcF _ hS; first | (go_simp; rfl) | go_simp); simp only [lxa, lxb, lxc]
    refine lx_r 4 _ HSX ?_; simp only [lxa, lxb, lxc]
    refine lx_r 6 _ HSX ?_; simp only [lxa, lxb, lxc]
    refine lx_r 7 _ HSX ?_; simp only [lxa, lxb, lxc]
    refine lx_r 8 _ HSX ?_; simp only [lxa, lxb, lxc]
    refine lx_r 9 (.slice (some ⟨g0, 0, none⟩) N cap0) HSX ?_ (hv := fun w' hS => by have q := hcF _ hS; first | (go_simp; rfl) | go_simp); simp only [lxa, lxb, lxc]
    refine lx_r 10 _ HSX ?_; simp only [lxa, lxb, lxc]
    refine lx_r 11 (.pointer (some ⟨g0, j * 3, none⟩)) HSX ?_; simp only [lxa, lxb, lxc]
    refine lx_r 12 (.pointer (some ⟨g0, j * 3 + 1, none⟩)) HSX ?_; simp only [lxa, lxb, lxc]
    refine lx_r 13 (.slice aj ln cj) HSX ?_ (hv := fun w' hS => by have q := hcB _ hS; first | (go_simp; rfl) | go_simp); simp only [lxa, lxb, lxc]
    refine lx_r 15 _ HSX ?_; simp only [lxa, lxb, lxc]
    have hX0 : Below X.heap.size X (X.alloc (.cells #[] 5)) := (Below.refl _ _).alloc (Nat.le_refl _) _
    have hemp : (X.alloc (.cells #[] 5)).ownsRow X.heap.size 5 1 (.slice (some ⟨X.heap.size, 0, none⟩) 0 0) 0 (bc []) := World.ownsRow_made X #[] 0 (Nat.le_refl _) (by unfold maxLen; omega) rfl
    refine lx_one 5 (by kernel_rfl) (stepT_val (w' := X.alloc (.cells #[] 5)) (.slice (some ⟨X.heap.size, 0, none⟩) 0 0) rfl rfl rfl ?r5m (fun _ => hX0) ?_)
    case r5m => first | (go_simp; rfl) | go_simp
    simp only [lxa, lxb, lxc]
    obtain ⟨v5, w5, hrun5, o5, hb5⟩ := run_appJ 29 hemp (hRj.carry (Nat.le_refl _) hX0) (by omega) hX0.size
    have hb5' := hX0.trans hb5
    refine lx_one 14 (by kernel_rfl) (stepT_val (w' := w5) v5 rfl rfl rfl (exec_appJ rfl rfl rfl hrun5) (fun _ => hb5') ?_)
    simp only [lxa, lxb, lxc]
    rw [Nat.zero_add, List.nil_append] at o5
    obtain ⟨v6, w6, hrun6, o6, hb6⟩ := run_appJ 29 o5 (hYX.carry (Nat.le_refl _) hb5') (by omega) hb5'.size
    have hb6' := hb5'.trans hb6
    refine lx_one 16 (by kernel_rfl) (stepT_val (w' := w6) v6 rfl rfl rfl (exec_appJ rfl rfl rfl hrun6) (fun _ => hb6') ?_)
    simp only [lxa, lxb, lxc]
    obtain ⟨a6, c6, rfl, hn6⟩ := Rd.ofRowE o6
    have hbl : (f.b ++ ys).length = ln + n := by rw [List.length_append, HLn.out, hY.len]
    have o6' : w6.ownsRow X.heap.size 5 1 (.slice a6 (ln + n) c6) (f.b ++ ys).length (bc (f.b ++ ys)) := by rw [hbl]; exact o6
    obtain ⟨g, cap, r0, hcap, ⟨u, r1⟩, r2, hRp⟩ := hRX.setB hb6' hix.out o6' hgN
    have hgg : g = g0 := by have h := hcF _ hb6'; rw [r0] at h; injection h with h; injection h with h _ _; injection h with h; injection h
    subst hgg
    refine lx_one 17 (by kernel_rfl) (stepT_val (w' := w6) (.pointer (some ⟨g, j * 3, none⟩)) rfl rfl rfl ?r17m (fun _ => hb6') ?_)
    case r17m => first | (go_simp; rfl) | go_simp
    simp only [lxa, lxb, lxc]
    refine lx_one 18 (by kernel_rfl) (stepT_val (w' := w6) (.pointer (some ⟨g, j * 3 + 1, none⟩)) rfl rfl rfl ?r18m (fun _ => hb6') ?_)
    case r18m => first | (go_simp; rfl) | go_simp
    simp only [lxa, lxb, lxc]
    refine lx_one 19 (by kernel_rfl) (stepT_store (w' := w6.setCell ⟨g, j * 3 + 1, none⟩ (.slice a6 (ln + n) c6)) rfl rfl rfl ?r19m (fun h => by cases h) ?_)
    case r19m => first | (go_simp; rfl) | go_simp
    refine lx_nil (by kernel_rfl) ?_
    go_wp2
    go_ret
    refine ⟨rfl, ?_⟩
    rw [hfin] at hRp
    rw [HLK.out]
    exact Rp.next hkV hGV (Rp.next (Keep.ofBelow hVX) (fun i hi => Or.inl hi) hRp)
  ·have e : appK k s ys = (8, k) := by
    unfold appK
    rw [on, hnm, hY.len]
    simp [hfit]
   rw [e]
   have hgt : decide ((k.room : Int) - (used k.fs : Int) < (n : Int)) = true := by simp; omega
   go_enter Tryz.func18, Tryz.ntmps18
   go_upto_region 4 with (first
    | (go_at_call 55; refine hF.mono ?_; rintro e w1 ⟨rfl, rfl⟩))
   refine wp_region_lx (fun w' => w' = w1.drew) [] 10 (by kernel_rfl) (by kernel_rfl) ?_
   have hRX := hR.below ((Below.refl _ _).drew)
   have p1 : w1.drew.cell? ⟨rd, 1, none⟩ = some (.int .i64 (k.room : Int)) := hq1
   have hbX : Below w1.heap.size w1 w1.drew := (Below.refl _ _).drew
   clear hq1 hF hfit
   generalize w1.drew = X at *
   have HS0 : X = X := rfl
   refine lx_r 0 _ HS0 ?_; simp only [lxa, lxb, lxc]
   refine lx_r 1 (.int .i64 n) HS0 ?_ (hv := fun w' hS => by subst hS; first | (go_simp; rfl) | go_simp); simp only [lxa, lxb, lxc]
   refine lx_r 2 _ HS0 ?_; simp only [lxa, lxb, lxc]
   refine lx_r 3 _ HS0 ?_; simp only [lxa, lxb, lxc]
   refine lx_r 4 _ HS0 ?_; simp only [lxa, lxb, lxc]
   refine lx_r 5 (.int .i64 k.room) HS0 ?_ (hv := fun w' hS => by subst hS; first | (go_simp; rfl) | go_simp); simp only [lxa, lxb, lxc]
   refine lx_r 6 _ HS0 ?_; simp only [lxa, lxb, lxc]
   refine lx_one 7 (by kernel_rfl) (stepT_call 44 ?a7 rfl rfl rfl ?r7 ?_)
   case r7 => first | (go_simp; rfl) | go_simp
   refine (hU _ hRX).mono ?_
   rintro e w4 ⟨rfl, hw4⟩
   replace hw4 := hw4.symm
   subst hw4
   refine ⟨_, rfl, fun _ => rfl, ?_⟩
   simp only [lxa, lxb, lxc]
   refine lx_r 8 (.int .i64 ((k.room : Int) - used k.fs)) HS0 ?_; simp only [lxa, lxb, lxc]
   refine lx_r 9 (.bool true) HS0 ?_; simp only [lxa, lxb, lxc]
   refine lx_nil (by kernel_rfl) ?_
   go_wp2
   go_ret
   exact ⟨rfl, Rp.ofBelow hR hbX⟩
 ·have e : appK k s ys = (firstK k s false, k) := by
   unfold appK firstK at *
   cases h1 : k.off <;> cases h2 : isNm s <;> simp_all
  rw [e]
  obtain ⟨en, hen⟩ : ∃ en, firstK k s false = en := ⟨_, rfl⟩
  rw [hen] at hF h0 ⊢
  have hne : ((en : Int) != 0) = true := by simp; omega
  clear hen e
  go_enter Tryz.func18, Tryz.ntmps18
  go_wp2_with (first
   | (go_at_call 55; refine hF.mono ?_; rintro e w1 ⟨rfl, rfl⟩))
  go_ret
  exact ⟨rfl, Rp.refl hR⟩
end Go.Proofs.YtikkieaokfailaaGreatDoor

namespace Go.Proofs.YtikkieaokfailaaGreatDoor
open Go.RowKit Go.Joins
theorem exec_appS {w w' : World} {o : Oper} {ρ : Operand → Value} {s x : Operand} {v u v' : Value} (ho : o.op = .call { callee := .builtin .append, args := #[s, x], argTypes := #[81, 81] }) (hs : ρ s = v) (hx : ρ x = u)
  (hrun : (Builtin.append_ #[81, 81] o.type #[v, u]).run Tryz.prog w = .ok v' w') : (execOp ρ o).run Tryz.prog w = .ok (.value v') w' := by
 simp only [execOp, ho, resolve, invoke, builtin, Sem.run_bind, Sem.run_pure, Result.andThen_ok, List.map_toArray, List.map_cons, List.map_nil, hs, hx, hrun]
theorem run_appS {w : World} (ty : TypeId) {base : Nat} {v : Value} {n : Nat} {xs : List Value} (hown : w.ownsRow base 9 1 v n xs) (y : Nm) (hn : n ≤ 1000000) (hbase : base ≤ w.heap.size) :
  ∃ v' w', (Builtin.append_ #[81, 81] ty #[v, .slice (some ⟨w.heap.size, 0, none⟩) 1 1]).run Tryz.prog (w.alloc (.cells #[.string y] 9)) = .ok v' w' ∧ w'.ownsRow base 9 1 v' (n + 1) (xs ++ [.string y]) ∧ Keep (fun k => v.ownBlock = some k) w w' := by
 obtain ⟨i0, hi, hz0, hz1, hz2⟩ := info_parts infoStr
 have hk0 : Keep (fun k => v.ownBlock = some k) w (w.alloc (.cells #[.string y] 9)) := (Keep.refl _ _).alloc _
 have hown1 := own_keep (S := fun _ => False) hown ((Keep.refl (fun _ => False) w).alloc (.cells #[.string y] 9)) (fun _ _ h => h)
 obtain ⟨v', w', hrun, h2, h3, _⟩ := run_append_own (P := Tryz.prog) (w.alloc (.cells #[.string y] 9)) base 81 ty 9 i0 (.string ByteArray.empty) 1 16 Tryz.underlying81 hi hz0 hz1 hz2 rfl (by decide) v n xs hown1 ⟨w.heap.size, 0, none⟩ 1 1 [.string y] (by simp) (fun j u hu => by
  rw [add_flat, Nat.zero_add, cell_of_block (alloc_at w (.cells #[.string y] 9))]
  simpa using hu) (by simp [Value.oneCell']) (by unfold maxLen; omega) (by omega) (by simp; omega)
 exact ⟨v', w', hrun, h2, hk0.trans (Keep.ofGrown h3)⟩
set_option maxRecDepth 100000 in
set_option maxHeartbeats 4000000 in
theorem list_go (bd br d : Nat) (F : Nat → Prop) (k : Dk) (hN9 : k.fs.length ≤ 1000000) (W : World) (hDk : DiskAt W F d k) (hd : W.heap[bd]? = some (.cells #[.pointer (some ⟨d, 0, none⟩)] 36 (0, 0))) (hr : W.heap[br]? = some (.cells #[.slice none 0 0] 81 (0, 0))) :
  Calls Tryz.prog 86 #[.pointer (some ⟨bd, 0, none⟩), .pointer (some ⟨br, 0, none⟩)] W fun e w' =>
   e = .returned (.tuple #[]) ∧ ∃ v, w'.heap[br]? = some (.cells #[v] 81 (0, 0)) ∧ w'.ownsRow W.heap.size 9 1 v k.fs.length (nv (k.fs.map Prod.fst)) ∧ Keep (fun i => i = br) W w' := by
 have q1 := box_cell hd
 have hgood := hDk.good
 have hrise : Calls Tryz.prog 69 #[.pointer (some ⟨d, 0, none⟩)] W fun e w' => ∃ v, e = .returned v ∧ w'.ownsRow W.heap.size 9 1 v k.fs.length (nv (k.fs.map Prod.fst)) ∧ Below W.heap.size W w' := by
  obtain ⟨⟨bm, m, hD, hbm, ht, ha⟩, fd, lt, hg⟩ := hDk
  exact rising_any d bm _ _ m k.fs hg.rise (fun s => (ht s).isSome) hN9 W hD
 obtain ⟨N, HN⟩ : ∃ N, Hid (k.fs.length = N) := ⟨_, rfl⟩
 rw [HN.out] at hrise hN9 ⊢
 have hrl := (Array.getElem?_eq_some_iff.1 hr).1
 clear hd hDk
 go_enter Tryz.func86, Tryz.ntmps86
 go_wp2_with (first
  | (go_at_call 69; refine hrise.mono ?_; rintro e w1 ⟨vn, rfl, hrow, hb1⟩; obtain ⟨an, cn, rfl, hobn⟩ := own_formS hrow))
 have hr1 := box_below hr hb1
 obtain ⟨An, hAn⟩ : ∃ A : Option Addr, (an.map fun g => (⟨g, 0, none⟩ : Addr)) = A := ⟨_, rfl⟩
 have HRw : Hid (w1.ownsRow W.heap.size 9 1 (.slice (an.map fun g => ⟨g, 0, none⟩) N cn) N (nv (k.fs.map Prod.fst))) := hrow
 have hsz1 := hb1.size
 rw [hAn]
 clear hrise hrow
 go_loopw [3, 7] (fun _ s7 wr => ∃ (i : Nat) (v : Value), i ≤ N ∧ s7 = .int .i64 i ∧ Hid (wr.heap[br]? = some (.cells #[v] 81 (0, 0))) ∧ Hid (wr.ownsRow w1.heap.size 9 1 v i (nv ((k.fs.take i).map Prod.fst))) ∧ Hid (Keep (fun j => j = br) w1 wr)) (fun _ s7 _ => N - (intOf s7).toNat)
 case atStart => exact ⟨0, _, by omega, rfl, hr1, ⟨rfl, Or.inl ⟨rfl, rfl⟩⟩, Keep.refl _ _⟩
 case round =>
  obtain ⟨i, v, hi, rfl, HC, HO, HK⟩ := hrel
  clear hr1
  by_cases hil : i < N
  ·have hcl : (i : Int) < (N : Int) := by omega
   have hik : i < k.fs.length := by rw [HN.out]; exact hil
   obtain ⟨x, hx⟩ : ∃ x, k.fs[i]? = some x := ⟨_, List.getElem?_eq_getElem hik⟩
   have hx64 := isNm_size (hgood.each x (List.mem_of_getElem? hx)).1
   obtain ⟨gn, hgn, hnc⟩ : ∃ gn, an = some gn ∧ wr.cell? ⟨gn, i, none⟩ = some (.string x.1) := by
    cases an with
    | none =>
     rcases HRw.out.2 with ⟨_, h0⟩ | ⟨g, cap, cur, h1, _⟩
     ·omega
     ·cases h1
    | some gn =>
     refine ⟨gn, rfl, ?_⟩
     have hix : (nv (k.fs.map Prod.fst))[i]? = some (.string x.1) := by
      unfold nv
      rw [List.getElem?_map, List.getElem?_map, hx]
      rfl
     have hc := HRw.out.cells (g := gn) rfl i _ hix
     rw [add_flat, Nat.zero_add] at hc
     have hb := (HRw.out.lt gn rfl).1
     exact HK.out.cell hc (fun h => by have : gn = br := h; omega)
   have e1 : An = some ⟨gn, 0, none⟩ := by rw [← hAn, hgn]; rfl
   subst e1
   have HT : Hid (nv ((k.fs.take (i + 1)).map Prod.fst) = nv ((k.fs.take i).map Prod.fst) ++ [.string x.1]) := by
    show _ = _
    rw [List.take_add_one, hx]
    simp [nv]
   obtain ⟨av, cv, hve, _⟩ := own_formN HO.out
   subst hve
   clear hx
   go_upto_region 3 with fail
   refine wp_region_lx (fun w' => w'.heap[br]? = some (.cells #[.slice av i cv] 81 (0, 0))) [5] 6 (by kernel_rfl) (by kernel_rfl) ?_
   have HC0 : wr.drew.heap[br]? = some (.cells #[.slice av i cv] 81 (0, 0)) := HC.out
   have HO0 : wr.drew.ownsRow w1.heap.size 9 1 (.slice av i cv) i (nv ((k.fs.take i).map Prod.fst)) := own_keep (S := fun _ => False) HO.out ((Keep.refl (fun _ => False) wr).drew) (fun _ _ h => h)
   have HK0 : Keep (fun j => j = br) w1 wr.drew := HK.out.drew
   clear HC HO HK hnc
   generalize wr.drew = X at *
   refine lx_r 0 (.slice av i cv) HC0 ?_ (hv := fun w' hS => by have q := box_cell hS; first | (go_simp; rfl) | go_simp); simp only [lxa, lxb, lxc]
   refine lx_r 1 _ HC0 ?_; simp only [lxa, lxb, lxc]
   refine lx_one 2 (by kernel_rfl) (stepT_call 87 ?a2 rfl rfl rfl ?r2 ?_)
   case r2 => first | (go_simp; rfl) | go_simp
   refine (clone_any x.1 X (by omega)).mono ?_
   rintro e w3 ⟨rfl, hb3⟩
   have HC3 := box_below HC0 hb3
   refine ⟨_, rfl, fun _ => HC3, ?_⟩
   simp only [lxa, lxb, lxc]
   have hb4 : Below X.heap.size X (w3.alloc (.cells #[.string x.1] 9)) := hb3.alloc hb3.size _
   refine lx_one 3 (by kernel_rfl) (stepT_val (w' := w3.alloc (.cells #[.string x.1] 9)) (.slice (some ⟨w3.heap.size, 0, none⟩) 1 1) rfl rfl rfl ?r3 (fun _ => (Below.heap_alloc _ _ _ (Array.getElem?_eq_some_iff.1 HC3).1).trans HC3) ?_)
   case r3 => first | (go_simp; rfl) | go_simp
   simp only [lxa, lxb, lxc]
   have HO3 := own_keep (S := fun _ => False) HO0 (Keep.ofBelow hb3) (fun _ _ h => h)
   have HK3 : Keep (fun j => j = br) w1 w3 := HK0.trans (Keep.ofBelow hb3)
   obtain ⟨v5, w5, hrun5, o5, hk5⟩ := run_appS 81 HO3 x.1 (by omega) HK3.size
   have hX1 := HK0.size
   have HC5 := box_keep HC3 hk5 (fun e => by have := (HO3.lt br e).1; omega)
   refine lx_one 4 (by kernel_rfl) (stepT_val (w' := w5) v5 rfl rfl rfl (exec_appS rfl rfl rfl hrun5) (fun _ => HC5) ?_)
   simp only [lxa, lxb, lxc]
   obtain ⟨a5, c5, rfl, _⟩ := own_formN o5
   have q5 := box_cell HC5
   have z5 := unfrozen_of_block HC5 0
   refine lx_one 5 (by kernel_rfl) (stepT_store (w' := w5.setCell ⟨br, 0, none⟩ (.slice a5 (i + 1) c5)) rfl rfl rfl ?r5 (fun h => by cases h) ?_)
   case r5 => first | (go_simp; rfl) | go_simp
   refine lx_nil (by kernel_rfl) ?_
   have HC6 := block_setCell (i := 0) HC5 (.slice a5 (i + 1) c5)
   have hkS : Keep (fun j => j = br) w5 (w5.setCell ⟨br, 0, none⟩ (.slice a5 (i + 1) c5)) := (Keep.refl (fun j => j = br) w5).setCell (p := ⟨br, 0, none⟩) rfl _
   have HO6 := own_keep o5 hkS (fun g hg e => by have := (o5.lt g hg).1; omega)
   have HK6 : Keep (fun j => j = br) w1 (w5.setCell ⟨br, 0, none⟩ (.slice a5 (i + 1) c5)) := (HK3.andThen hk5 (fun j hj e => absurd (HO3.lt j e).1 (by omega))).trans hkS
   clear hk5 o5 HC5 q5 z5 hrun5 HC3 HO3 HK3 HC0 HO0 HK0 hb3 hb4
   generalize w5.setCell ⟨br, 0, none⟩ (.slice a5 (i + 1) c5) = Z at *
   go_wp2
   exact ⟨⟨i + 1, .slice a5 (i + 1) c5, by omega, by go_num, HC6, by show World.ownsRow _ _ _ _ _ _ _; rw [HT.out]; exact HO6, HK6⟩, by simp [intOf]; omega⟩
  ·obtain rfl : i = N := by omega
   have hcl : ¬ (i : Int) < (i : Int) := by omega
   have hO := HO.out
   rw [List.take_of_length_le (by rw [HN.out]; exact Nat.le_refl _)] at hO
   go_wp2
   go_end0
   exact ⟨rfl, v, HC.out, own_weak hO hb1.size, (Keep.ofBelow hb1).trans HK.out⟩
set_option maxHeartbeats 1000000 in
theorem list_any (d : Nat) (F : Nat → Prop) (k : Dk) (hN9 : k.fs.length ≤ 1000000) (w : World) (hDk : DiskAt w F d k) :
  Calls Tryz.prog 37 #[.pointer (some ⟨d, 0, none⟩)] w fun e w' => ∃ v, e = .returned (.tuple #[v, .int .i64 (listK k).1]) ∧ w'.ownsRow w.heap.size 9 1 v (listK k).2.length (nv (listK k).2) ∧ Below w.heap.size w w' := by
 have hmf : ∀ (fn : Fn) (first cap : Array Value) (w : World), (Instr.makeFunc fn first cap).run Tryz.prog w = .ok (.func fn first cap) w := fun _ _ _ _ => rfl
 obtain ⟨W, hW⟩ : ∃ W, (w.alloc (.cells #[.pointer (some ⟨d, 0, none⟩)] 36)).alloc (.cells #[.slice none 0 0] 81) = W := ⟨_, rfl⟩
 have hB : Below w.heap.size w W := by rw [← hW]; exact ((Below.refl _ _).alloc (Nat.le_refl _) _).alloc (by simp) _
 have b0 : W.heap[w.heap.size]? = some (.cells #[.pointer (some ⟨d, 0, none⟩)] 36 (0, 0)) := by rw [← hW]; exact alloc2_at w _ _
 have b2 : W.heap[w.heap.size + 1]? = some (.cells #[.slice none 0 0] 81 (0, 0)) := by rw [← hW]; exact (by simpa using alloc_at (w.alloc (.cells #[.pointer (some ⟨d, 0, none⟩)] 36)) (.cells #[.slice none 0 0] 81))
 have hDW := hDk.below hB
 have hA : Calls Tryz.prog 48 #[.pointer (some ⟨d, 0, none⟩), .func (.func 86) #[] #[.pointer (some ⟨w.heap.size, 0, none⟩), .pointer (some ⟨w.heap.size + 1, 0, none⟩)]] W fun e w' => e = .returned (.int .i64 (listK k).1) ∧ ∃ v, w'.heap[w.heap.size + 1]? = some (.cells #[v] 81 (0, 0)) ∧ w'.ownsRow W.heap.size 9 1 v (listK k).2.length (nv (listK k).2) ∧ Keep (fun i => i = w.heap.size + 1) W w' := by
  have hc4 : W.cell? ⟨d, 4, none⟩ = some (.bool k.off) := by
   obtain ⟨⟨bm, m, h, _⟩, _⟩ := hDW
   exact h.c4
  cases on : k.off with
  | true =>
   have e : listK k = (13, []) := by unfold listK; rw [on]; rfl
   rw [e]
   rw [on] at hc4
   refine (attempt_down d _ _ W hc4).mono ?_
   rintro e w' ⟨rfl, hb⟩
   exact ⟨rfl, _, box_below b2 hb, ⟨rfl, Or.inl ⟨rfl, rfl⟩⟩, Keep.ofBelow hb⟩
  | false =>
   have e : listK k = (0, k.fs.map Prod.fst) := by unfold listK; rw [on]; rfl
   rw [e]
   rw [on] at hc4
   dsimp only
   rw [List.length_map]
   have hb1 : Below W.heap.size W (W.alloc (.cells #[.int .i64 0] 37)) := (Below.refl _ _).alloc (Nat.le_refl _) _
   have hD1 := hDW.below hb1
   have g0 := box_below b0 hb1
   have g2 := box_below b2 hb1
   have ge := alloc_at W (.cells #[.int .i64 0] 37)
   have hWs : w.heap.size + 1 < W.heap.size := (Array.getElem?_eq_some_iff.1 b2).1
   have hVs : (W.alloc (.cells #[.int .i64 0] 37)).heap.size = W.heap.size + 1 := by simp
   refine (attempt_go d _ _ 0 (fun w' => ∃ v, w'.heap[w.heap.size + 1]? = some (.cells #[v] 81 (0, 0)) ∧ w'.ownsRow (W.heap.size + 1) 9 1 v k.fs.length (nv (k.fs.map Prod.fst)) ∧ Keep (fun i => i = w.heap.size + 1) W w') W (enters_of Tryz.func86 (by kernel_rfl) rfl) hc4 ((list_go _ _ d F k hN9 _ hD1 g0 g2).mono ?_)).mono ?_
   ·rintro e w' ⟨rfl, v, hv, ho, hk⟩
    rw [hVs] at ho
    exact ⟨Or.inl ⟨rfl, rfl⟩, ⟨v, hv, ho, (Keep.ofBelow hb1).trans hk⟩, box_keep ge hk (by omega)⟩
   ·rintro e w' ⟨rfl, w1, ⟨v, hv, ho, hk⟩, rfl⟩
    have hk2 : Keep (fun i => i = W.heap.size) w1 (w1.setCell ⟨W.heap.size, 0, none⟩ (.int .i64 ((0 : Nat) : Int))) := (Keep.refl (fun i => i = W.heap.size) w1).setCell (p := ⟨W.heap.size, 0, none⟩) rfl _
    exact ⟨rfl, v, box_keep hv hk2 (by omega), own_weak (own_keep ho hk2 (fun g hg e => by have := (ho.lt g hg).1; omega)) (by omega), hk.setNew (Nat.le_refl _) _⟩
 have c0 := box_cell b0
 have hWs : w.heap.size + 1 < W.heap.size := (Array.getElem?_eq_some_iff.1 b2).1
 clear hDW
 obtain ⟨P, hP⟩ : ∃ P, listK k = P := ⟨_, rfl⟩
 rw [hP] at hA ⊢
 clear hP
 obtain ⟨en, ns⟩ := P
 dsimp only at hA ⊢
 go_enter Tryz.func37, Tryz.ntmps37
 go_upto_region 2 with (first
  | (go_at_call 48; refine hA.mono ?_; rintro e w1 ⟨rfl, v, hv, ho, hk⟩; obtain ⟨A5, cp5, rfl, _⟩ := own_formN ho; have q2 := box_cell hv; have z2 := unfrozen_of_block hv 0))
 clear hW hA c0
 have hv2 := block_setCell (i := 0) hv (.slice A5 ns.length cp5)
 have q3 := cell_of_block hv2 0
 simp at q3
 obtain ⟨ln, hln⟩ : ∃ ln, ns.length = ln := ⟨_, rfl⟩
 have HLN : Hid (ns.length = ln) := hln
 rw [hln] at q2 q3 ho
 clear hv2 hln
 go_wp2
 have hk2 : Keep (fun i => i = w.heap.size + 1) w1 (w1.setCell ⟨w.heap.size + 1, 0, none⟩ (.slice A5 ln cp5)) := (Keep.refl (fun i => i = w.heap.size + 1) w1).setCell (p := ⟨w.heap.size + 1, 0, none⟩) rfl _
 refine bodyPost_ret (v := .tuple #[.slice A5 ln cp5, .int .i64 (en : Int)]) (by simp [results, Tryz.results37, go_sem, q3]) rfl ⟨_, rfl, ?_, ?_⟩
 ·rw [HLN.out]
  exact own_weak (own_keep ho hk2 (fun g hg e => by have := (ho.lt g hg).1; omega)) hB.size
 exact hB.trans ((hk.trans hk2).below hB.size (fun i hi => by omega))
end Go.Proofs.YtikkieaokfailaaGreatDoor

namespace Go.Proofs.YtikkieaokfailaaGreatDoor
open Go.RowKit Go.Joins
theorem bytesOf_inj {xs ys : List Int} (hx : Bd xs) (hy : Bd ys) (h : Lib.bytesOf xs = Lib.bytesOf ys) : xs = ys := by
 induction xs generalizing ys with
 | nil => cases ys with
  | nil => rfl
  | cons y r => cases h
 | cons x r ih => cases ys with
  | nil => cases h
  | cons y s =>
   have h' : UInt8.ofNat x.toNat :: Lib.bytesOf r = UInt8.ofNat y.toNat :: Lib.bytesOf s := h
   obtain ⟨h1, h2⟩ := List.cons.inj h'
   have hx1 := hx x (List.mem_cons_self ..)
   have hy1 := hy y (List.mem_cons_self ..)
   have h3 := congrArg UInt8.toNat h1
   rw [UInt8.toNat_ofNat', UInt8.toNat_ofNat'] at h3
   have h4 : x = y := by omega
   rw [h4, ih (fun z hz => hx z (List.mem_cons_of_mem _ hz)) (fun z hz => hy z (List.mem_cons_of_mem _ hz)) h2]
theorem bytesOf_beq {xs ys : List Int} (hx : Bd xs) (hy : Bd ys) : (Lib.bytesOf xs == Lib.bytesOf ys) = decide (xs = ys) := by
 by_cases h : xs = ys
 ·subst h; simp
 ·rw [decide_eq_false h, beq_eq_false_iff_ne]
  exact fun e => h (bytesOf_inj hx hy e)
theorem bequal_any (a1 : Option Addr) (n1 c1 : Nat) (xs : List Int) (a2 : Option Addr) (n2 c2 : Nat) (ys : List Int) (w : World) (h1 : Rd w a1 n1 c1 xs) (h2 : Rd w a2 n2 c2 ys) :
  Calls Tryz.prog 131 #[.slice a1 n1 c1, .slice a2 n2 c2] w fun e w' => e = .returned (.bool (decide (xs = ys))) ∧ w' = w := by
 rw [← bytesOf_beq h1.bytes h2.bytes]
 exact Any.bytes_Equal { Tryz.laysb115 with } _ _ xs ys w h1.string h2.string
def sBase : Nm := ⟨#[98, 97, 115, 101]⟩
def sNew : Nm := ⟨#[98, 97, 115, 101, 46, 110, 101, 119]⟩
def sLog : Nm := ⟨#[108, 111, 103, 45]⟩
def baseR (r : Nat × List Int) : Nat × Nat :=
 if r.1 = 7 then (0, 1) else if r.1 ≠ 0 then (r.1, 0) else if r.2.length ≠ 12 then (14, 0) else
 if 0 < numL (r.2.take 8) ∧ r.2 = baseL (numL (r.2.take 8)) then (0, numL (r.2.take 8)) else (14, 0)
def GsV (p : Nat × Nat) (e : Ending) : Prop := (p.1 = 0 ∧ e = .returned (.int .u64 (p.2 : Int))) ∨ (p.1 ≠ 0 ∧ e = .panicked (gaveS p.1))
theorem gsv_no {n m : Nat} {e : Ending} (h : n ≠ 0) (he : e = .panicked (gaveS n)) : GsV (n, m) e := Or.inr ⟨h, he⟩
theorem gsv14 : GsV (14, 0) (.panicked (gaveS 14)) := gsv_no (fun h => by cases h) rfl
theorem numL_lt8 {xs : List Int} (hb : Bd xs) (h : xs.length ≤ 8) : numL xs < 18446744073709551616 := by
 have h1 := numK_lt hb xs.length
 have h2 : 256 ^ xs.length ≤ 256 ^ 8 := Nat.pow_le_pow_right (by omega) h
 have h3 : (256 : Nat) ^ 8 = 18446744073709551616 := by decide
 unfold numL
 omega
theorem readK_cases' (k : Dk) (s : Nm) : (∃ f, look k.fs s = some f ∧ readK k s = (0, f.b)) ∨ (readK k s).2 = [] := by
 unfold readK
 split
 ·exact Or.inr rfl
 ·split
  ·exact Or.inr rfl
  ·split
   ·exact Or.inr rfl
   ·rename_i f hf; exact Or.inl ⟨f, hf, rfl⟩
theorem nm_neqT {a b : Nm} (h : ¬ a = b) : (a.toList == b.toList) = false := by
 rw [beq_eq_false_iff_ne, ByteArray.toList_eq, ByteArray.toList_eq]
 exact fun e => h (nm_ext e)
theorem nm_eqT (a : Nm) : (a.toList == a.toList) = true := by simp
set_option maxHeartbeats 2000000 in
theorem base_any (w : World) (F : Nat → Prop) (lb d most : Nat) (v : Value) (c : Ch) (dn : Bool) (k : Dk) (h : LD w F lb d most v c dn k) :
  Calls Tryz.prog 98 #[.pointer (some ⟨lb, 0, none⟩)] w fun e w' => GsV (baseR (readK k sBase)) e ∧ Below w.heap.size w w' := by
 have q0 := h.c0
 have hrd := read_any d F k sBase w h.D
 have hbd : Bd (readK k sBase).2 := by
  rcases readK_cases' k sBase with ⟨f, hl, e⟩ | e
  ·rw [e]; dsimp only; exact (look_good h.D.good hl).2.2
  ·rw [e]; exact Bd.nil
 obtain ⟨P, HP⟩ : ∃ P, Hid (readK k sBase = P) := ⟨_, rfl⟩
 rw [HP.out] at hrd hbd ⊢
 obtain ⟨en, xs⟩ := P
 dsimp only at hrd hbd
 have hrd2 : Calls Tryz.prog 38 #[.pointer (some ⟨d, 0, none⟩), .string ⟨#[98, 97, 115, 101]⟩] w fun e w' => ∃ a c', e = .returned (.tuple #[.slice a xs.length c', .int .i64 (en : Int)]) ∧ Rd w' a xs.length c' xs ∧ Below w.heap.size w w' := by
  refine hrd.mono ?_
  rintro e w' ⟨v, rfl, o, hb⟩
  obtain ⟨a, c', rfl, r⟩ := Rd.ofOwn o hbd
  exact ⟨a, c', rfl, r, hb⟩
 clear hrd
 unfold baseR
 dsimp only
 by_cases h7 : en = 7
 ·subst h7
  rw [if_pos rfl]
  go_enter Tryz.func98, Tryz.ntmps98
  go_wp2_with (go_at_call 38; refine hrd2.mono ?_; rintro e w1 ⟨a, c', rfl, r, hb⟩)
  go_ret
  exact ⟨Or.inl ⟨rfl, rfl⟩, hb⟩
 ·rw [if_neg h7]
  have e7 : ((en : Int) == 7) = false := by rw [beq_eq_false_iff_ne]; omega
  by_cases h0 : en = 0
  ·subst h0
   rw [if_neg (by simp)]
   obtain ⟨N, HN⟩ : ∃ N, Hid (xs.length = N) := ⟨_, rfl⟩
   rw [HN.out] at hrd2 ⊢
   by_cases h12 : N = 12
   ·subst h12
    rw [if_neg (by simp)]
    have hg8 : numL (xs.take 8) < 18446744073709551616 := numL_lt8 (hbd.take 8) (by rw [List.length_take]; omega)
    have hnum := fun w' a c' (hr : Rd w' a 12 c' xs) => number_any a 8 c' (xs.take 8) w' (hr.take4 (by omega)) (by omega)
    have hXb : Bd (baseL (numL (xs.take 8))) := by unfold baseL; exact (bigL_bd _ _).append (bigL_bd _ _)
    obtain ⟨g, Hg⟩ : ∃ g, Hid (numL (xs.take 8) = g) := ⟨_, rfl⟩
    simp only [Hg.out] at hnum
    rw [Hg.out] at hg8 hXb ⊢
    have hbf := fun w' => baseForm_any g w'
    have hbl := baseL_len g
    by_cases hg0 : 0 < g
    ·have hz1 : (0 : Int) < (g : Int) := by omega
     by_cases hxe : xs = baseL g
     ·rw [if_pos ⟨hg0, hxe⟩]
      have hde : decide (xs = baseL g) = true := decide_eq_true hxe
      clear hxe h7
      go_enter Tryz.func98, Tryz.ntmps98
      go_wp2_with (first
       | (go_at_call 38; refine hrd2.mono ?_; rintro e w1 ⟨a, c', rfl, r, hb⟩; have hcc : (8 : Int) ≤ (c' : Int) := (by have := r.cap; omega))
       | (go_at_call 130; refine (hnum w1 a c' r).mono ?_; rintro e w2 ⟨rfl, h2⟩; replace h2 := h2.symm; subst h2)
       | (go_at_call 114; refine (hbf w1).mono ?_; rintro e w3 ⟨v3, rfl, o3, hb3⟩; obtain ⟨a3, c3, rfl, r3⟩ := Rd.ofOwn o3 hXb)
       | (go_at_call 131; refine (bequal_any a 12 c' xs a3 12 c3 (baseL g) w3 (r.carry (Nat.le_refl _) hb3) r3).mono ?_; rw [hde]; rintro e w4 ⟨rfl, h4⟩; replace h4 := h4.symm; subst h4)
       | (go_at_call 129; refine (sask_ok _ _).mono ?_; rintro e w5 ⟨rfl, h5⟩; replace h5 := h5.symm; subst h5))
      go_ret
      exact ⟨Or.inl ⟨rfl, rfl⟩, hb.trans (hb3.mono hb.size)⟩
     ·rw [if_neg (fun e => hxe e.2)]
      have hde : decide (xs = baseL g) = false := decide_eq_false hxe
      clear hxe h7
      have tk1 : True := trivial
      have tk2 : True := trivial
      go_enter Tryz.func98, Tryz.ntmps98
      go_wp2_with (first
       | (go_at_call 38; refine hrd2.mono ?_; rintro e w1 ⟨a, c', rfl, r, hb⟩; have hcc : (8 : Int) ≤ (c' : Int) := (by have := r.cap; omega))
       | (go_at_call 130; refine (hnum w1 a c' r).mono ?_; rintro e w2 ⟨rfl, h2⟩; replace h2 := h2.symm; subst h2)
       | (go_at_call 114; refine (hbf w1).mono ?_; rintro e w3 ⟨v3, rfl, o3, hb3⟩; obtain ⟨a3, c3, rfl, r3⟩ := Rd.ofOwn o3 hXb)
       | (go_at_call 131; refine (bequal_any a 12 c' xs a3 12 c3 (baseL g) w3 (r.carry (Nat.le_refl _) hb3) r3).mono ?_; rw [hde]; rintro e w4 ⟨rfl, h4⟩; replace h4 := h4.symm; subst h4)
       | (clear tk1; go_at_call 129; refine (sask_ok 0 _).mono ?_; rintro e w5 ⟨rfl, h5⟩; replace h5 := h5.symm; subst h5)
       | (clear tk2; go_at_call 129; refine (sask_ok 14 _).mono ?_; rintro e w5 ⟨rfl, h5⟩; replace h5 := h5.symm; subst h5)
       | (go_at_call 129; refine (sask_no 14 _).mono ?_; rintro e w5 ⟨rfl, h5⟩; replace h5 := h5.symm; subst h5))
      exact ⟨rfl, gsv14, hb.trans (hb3.mono hb.size)⟩
    ·obtain rfl : g = 0 := by omega
     rw [if_neg (fun e => hg0 e.1)]
     clear h7
     have tk1 : True := trivial
     have tk2 : True := trivial
     go_enter Tryz.func98, Tryz.ntmps98
     go_wp2_with (first
      | (go_at_call 38; refine hrd2.mono ?_; rintro e w1 ⟨a, c', rfl, r, hb⟩; have hcc : (8 : Int) ≤ (c' : Int) := (by have := r.cap; omega))
      | (go_at_call 130; refine (hnum w1 a c' r).mono ?_; rintro e w2 ⟨rfl, h2⟩; replace h2 := h2.symm; subst h2)
      | (clear tk1; go_at_call 129; refine (sask_ok 0 _).mono ?_; rintro e w5 ⟨rfl, h5⟩; replace h5 := h5.symm; subst h5)
      | (clear tk2; go_at_call 129; refine (sask_ok 14 _).mono ?_; rintro e w5 ⟨rfl, h5⟩; replace h5 := h5.symm; subst h5)
      | (go_at_call 129; refine (sask_no 14 _).mono ?_; rintro e w5 ⟨rfl, h5⟩; replace h5 := h5.symm; subst h5))
     exact ⟨rfl, gsv14, hb⟩
   ·rw [if_pos h12]
    have e12 : ((N : Int) == 12) = false := by rw [beq_eq_false_iff_ne]; omega
    clear h7
    have tk1 : True := trivial
    go_enter Tryz.func98, Tryz.ntmps98
    go_wp2_with (first
     | (go_at_call 38; refine hrd2.mono ?_; rintro e w1 ⟨a, c', rfl, r, hb⟩)
     | (clear tk1; go_at_call 129; refine (sask_ok 0 _).mono ?_; rintro e w5 ⟨rfl, h5⟩; replace h5 := h5.symm; subst h5)
     | (go_at_call 129; refine (sask_no 14 _).mono ?_; rintro e w5 ⟨rfl, h5⟩; replace h5 := h5.symm; subst h5))
    exact ⟨rfl, gsv14, hb⟩
  ·rw [if_pos h0]
   have e0 : ((en : Int) == 0) = false := by rw [beq_eq_false_iff_ne]; omega
   go_enter Tryz.func98, Tryz.ntmps98
   go_wp2_with (first
    | (go_at_call 38; refine hrd2.mono ?_; rintro e w1 ⟨a, c', rfl, r, hb⟩)
    | (go_at_call 129; refine (sask_no en _).mono ?_; rintro e w5 ⟨rfl, h5⟩; replace h5 := h5.symm; subst h5))
   exact ⟨rfl, gsv_no h0 rfl, hb⟩
def isOf (s : Nm) : Bool := decide (s = sNew) || Lib.hasPrefix s.data.toList sLog.data.toList
theorem sNewL : sNew.toList = [98, 97, 115, 101, 46, 110, 101, 119] := by rw [ByteArray.toList_eq]; rfl
theorem isOf_any (s : Nm) (w : World) : Calls Tryz.prog 133 #[.string s] w fun e w' => e = .returned (.bool (isOf s)) ∧ w' = w := by
 have hp : ∀ w, Calls Tryz.prog 151 #[.string s, .string ⟨#[108, 111, 103, 45]⟩] w fun e w' => e = .returned (.bool (Lib.hasPrefix s.data.toList sLog.data.toList)) ∧ w' = w := fun w => Any.strings_HasPrefix Tryz.lays99 s sLog w
 unfold isOf
 obtain ⟨b, Hb⟩ : ∃ b, Hid (Lib.hasPrefix s.data.toList sLog.data.toList = b) := ⟨_, rfl⟩
 simp only [Hb.out] at hp ⊢
 by_cases h : s = sNew
 ·rw [decide_eq_true h, Bool.true_or]
  rw [h] at hp ⊢
  clear h Hb
  have hq : (sNew.toList == [98, 97, 115, 101, 46, 110, 101, 119]) = true := by rw [← sNewL]; exact nm_eqT _
  go_enter Tryz.func133, Tryz.ntmps133
  go_wp2
  go_ret
  exact ⟨rfl, rfl⟩
 ·rw [decide_eq_false h, Bool.false_or]
  have hq : (s.toList == [98, 97, 115, 101, 46, 110, 101, 119]) = false := by rw [← sNewL]; exact nm_neqT h
  go_enter Tryz.func133, Tryz.ntmps133
  go_wp2_with (go_at_call 151; refine (hp _).mono ?_; rintro e w1 ⟨rfl, h1⟩; replace h1 := h1.symm; subst h1)
  go_ret
  exact ⟨rfl, rfl⟩
end Go.Proofs.YtikkieaokfailaaGreatDoor
