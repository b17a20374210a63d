/- lease: append of one of whatever type; the row's Push and Pop. -/
import Derived.Test.YtfakcjelibdnbaaHpB
namespace Go.Proofs.Ytfakcjelibdnbaa
open Go.RowKit Go.Joins

theorem alloc_at (w : World) (o : Obj) : (w.alloc o).heap[w.heap.size]? = some o := by
  show (w.heap.push o)[w.heap.size]? = some o
  simp
theorem sz_set (w : World) (p : Addr) (v : Value) : (w.setCell p v).heap.size = w.heap.size := by simp [World.setCell]
theorem ta_run (b : Addr) (w : World) : (Instr.typeAssert (.iface 71 (.pointer (some b))) 20 71 false).run Try.prog w = .ok (.pointer (some b)) w := by kernel_rfl

theorem app_where1 (t e : TypeId) (z : Value) (bytes : Nat) (ht : Try.prog.underlying t = some (.slice e)) (hif : (Try.prog.info? e).map (fun i => (i.zero, i.size, i.bytes)) = some (some z, 1, bytes)) (hby : bytes ≤ 100) {w : World} {base : Nat} {v : Value} {n : Nat} {xs : List Value} (hown : w.ownsRow base e 1 v n xs) {ad : Addr} {c : Nat} {u : Value} (hu : u.oneCell' = true) (hr : ∀ j x, [u][j]? = some x → w.cell? (ad.add j) = some x) (hb : n ≤ 1000000) {ty : TypeId} {v' : Value} {w' : World}
    (hrun : (Builtin.append_ #[t, t] ty #[v, .slice (some ad) 1 c]).run Try.prog w = .ok v' w') : v'.ownBlock = v.ownBlock ∨ v'.ownBlock = some w.heap.size := by
  obtain ⟨i0, hi, hz0, hz1, hz2⟩ := info_parts hif
  have hl : [u].length = 1 * i0.size := by rw [hz1]; rfl
  have hb2 : (n + 1) * i0.bytes ≤ (1000000 + 1) * 100 := Nat.mul_le_mul (by omega) (by omega)
  rcases hown.2 with ⟨rfl, rfl⟩ | ⟨g, cap, cur, rfl, hbg, hg, hnc, hcm, hcs, htake⟩
  · right
    have hr2 := run_append_nil (P := Try.prog) w t ty e i0 z ht hi hz0 ad 1 c [u] hl hr (by omega) (by omega) (by omega)
    rw [hr2] at hrun
    injection hrun with e _
    rw [← e]; rfl
  · by_cases hroom : n + 1 ≤ cap
    · left
      have hr2 := run_append_room (P := Try.prog) w t ty e i0 ht hi g n cap cur hg ad 1 c [u] hl hr (by simpa using hu) hroom (by rw [hl, hcs, hz1]; omega)
      rw [hr2] at hrun
      injection hrun with e _
      rw [← e]; rfl
    · right
      have hr2 := run_append_grow (P := Try.prog) w t ty e i0 z ht hi hz0 ⟨g, 0, none⟩ n cap xs (by rw [hown.1, hz1]) (hown.cells (g := g) rfl) ad 1 c [u] hl hr (by omega) (by omega) (growslice_fits (by omega) (by omega))
      rw [hr2] at hrun
      injection hrun with e _
      rw [← e]; rfl

theorem run_app1 (t e : TypeId) (z : Value) (bytes : Nat) (ht : Try.prog.underlying t = some (.slice e)) (hif : (Try.prog.info? e).map (fun i => (i.zero, i.size, i.bytes)) = some (some z, 1, bytes)) (hby : bytes ≤ 100) (hzs : z.cells.size = 1) {w : World} (ty : TypeId) {base : Nat} {v : Value} {n : Nat} {xs : List Value} (hown : w.ownsRow base e 1 v n xs) (u : Value) (hu : u.oneCell' = true) (hn : n ≤ 1000000) (hbase : base ≤ w.heap.size) :
    ∃ v' w', (Builtin.append_ #[t, t] ty #[v, .slice (some ⟨w.heap.size, 0, none⟩) 1 1]).run Try.prog (w.alloc (.cells #[u] e)) = .ok v' w' ∧ w'.ownsRow base e 1 v' (n + 1) (xs ++ [u]) ∧ Keep (fun k => v.ownBlock = some k) w w' ∧ (v'.ownBlock = v.ownBlock ∨ ∃ g, v'.ownBlock = some g ∧ w.heap.size ≤ g) ∧ v' ≠ .slice none 0 0 := by
  obtain ⟨i0, hi, hz0, hz1, hz2⟩ := info_parts hif
  have hk0 : Keep (fun k => v.ownBlock = some k) w (w.alloc (.cells #[u] e)) := (Keep.refl _ _).alloc _
  have hown1 := own_keep (S := fun _ => False) hown ((Keep.refl (fun _ => False) w).alloc (.cells #[u] e)) (fun _ _ h => h)
  have hnw : ∀ j x, [u][j]? = some x → (w.alloc (.cells #[u] e)).cell? ((⟨w.heap.size, 0, none⟩ : Addr).add j) = some x := fun j x hx => by
    rw [add_flat, Nat.zero_add, cell_of_block (alloc_at w (.cells #[u] e))]
    simpa using hx
  have hb2 : (n + 1) * bytes ≤ (1000000 + 1) * 100 := Nat.mul_le_mul (by omega) hby
  obtain ⟨v', w', hrun, h2, h3, h5⟩ := run_append_own (P := Try.prog) (w.alloc (.cells #[u] e)) base t ty e i0 z 1 bytes ht hi hz0 hz1 hz2 hzs (by decide) v n xs hown1 ⟨w.heap.size, 0, none⟩ 1 1 [u] (by simp) hnw (by simpa using hu) (by unfold maxLen; omega) (by omega) (by simp; omega)
  have h4 := app_where1 t e z bytes ht hif hby hown1 hu hnw hn hrun
  refine ⟨v', w', hrun, h2, hk0.trans (Keep.ofGrown h3), ?_, fun e => by have := h5.1 e; omega⟩
  rcases h4 with h4 | h4
  · exact Or.inl h4
  · exact Or.inr ⟨_, h4, by simp⟩

theorem wp_app1 (t e : TypeId) (z : Value) (bytes : Nat) (ht : Try.prog.underlying t = some (.slice e)) (hif : (Try.prog.info? e).map (fun i => (i.zero, i.size, i.bytes)) = some (some z, 1, bytes)) (hby : bytes ≤ 100) (hzs : z.cells.size = 1) {w : World} {ops : Array Oper} {rest : List Oper} {o : Oper} {a : Act} {Q : Exit → Act → World → Prop} (hgd : o.guard = none) (s x : Operand)
    (ho : o.op = .call { callee := .builtin .append, args := #[s, x], argTypes := #[t, t] })
    (base : Nat) (v : Value) (n : Nat) (xs : List Value) (hs : a.eval s = v) (hown : w.ownsRow base e 1 v n xs) (u : Value) (hu : u.oneCell' = true)
    (hx : a.eval x = .slice (some ⟨w.heap.size, 0, none⟩) 1 1) (hn : n ≤ 1000000) (hbase : base ≤ w.heap.size)
    (h : ∀ v' w', w'.ownsRow base e 1 v' (n + 1) (xs ++ [u]) → Keep (fun k => v.ownBlock = some k) w w' → (v'.ownBlock = v.ownBlock ∨ ∃ g, v'.ownBlock = some g ∧ w.heap.size ≤ g) → v' ≠ .slice none 0 0 → wpList Try.prog ops Q rest (a.put o.dst v') w') : wpList Try.prog ops Q (o :: rest) a (w.alloc (.cells #[u] e)) := by
  refine wpList_plain hgd fun K hK => ?_
  obtain ⟨v', w', hrun, h2, h3, h4, h5⟩ := run_app1 t e z bytes ht hif hby hzs o.type hown u hu hn hbase
  unfold Oper.wp
  simp only [execOp, ho, resolve, invoke, builtin, Sem.run_bind, Sem.run_pure, Result.andThen_ok, List.map_toArray, List.map_cons, List.map_nil, hs, hx, hrun]
  exact hK _ _ (h v' w' h2 h3 h4 h5)

def rowOf (d : Nat → El) (n : Nat) : List Value := (List.range n).map fun i => pv (d i)
theorem rowOf_len (d : Nat → El) (n : Nat) : (rowOf d n).length = n := by simp [rowOf]
theorem Od.own {w : World} {g : Option Nat} {n c : Nat} {d : Nat → El} (h : Od w g n c d) : w.ownsRow 0 71 1 (sl g n c) n (rowOf d n) := by
  refine ⟨by rw [rowOf_len]; omega, ?_⟩
  cases g with
  | none => have := h.nil rfl; left; rw [this.1, this.2]; exact ⟨rfl, rfl⟩
  | some b =>
    right
    obtain ⟨cur, h1, h2, h3⟩ := h.row b rfl
    refine ⟨b, c, cur, rfl, Nat.zero_le _, h1, h.le, h.cl, by omega, ?_⟩
    apply List.ext_getElem?
    intro i
    by_cases hi : i < n
    · have := h3 i hi
      simp [hi, rowOf, this]
    · have e1 : (cur.toList.take (n * 1))[i]? = none := by simp [List.getElem?_take]; omega
      have e2 : (rowOf d n)[i]? = none := by rw [List.getElem?_eq_none]; rw [rowOf_len]; omega
      rw [e1, e2]
/-- One more behind all. -/
def ins (d : Nat → El) (n : Nat) (a : El) : Nat → El := fun k => if k = n then a else d k
theorem ins_at (d : Nat → El) (n : Nat) (a : El) : ins d n a n = a := by simp [ins]
theorem ins_old (d : Nat → El) {n k : Nat} (a : El) (h : k ≠ n) : ins d n a k = d k := by simp [ins, h]
theorem rowOf_ins (d : Nat → El) (n : Nat) (a : El) : rowOf d n ++ [pv a] = rowOf (ins d n a) (n + 1) := by
  unfold rowOf
  rw [List.range_succ, List.map_append, List.map_singleton, ins_at]
  congr 1
  apply List.map_congr_left
  intro k hk
  rw [ins_old]
  have := List.mem_range.1 hk
  omega
theorem Rw.of_own {w : World} {v : Value} {n : Nat} {d : Nat → El} (h : w.ownsRow 0 71 1 v n (rowOf d n)) (hv : v ≠ .slice none 0 0) : ∃ b c, v = sl (some b) n c ∧ Rw w b n c d ∧ n ≤ c ∧ c ≤ maxLen := by
  rcases h.2 with ⟨rfl, _⟩ | ⟨b, c, cur, rfl, _, hb, hnc, hcm, hcs, htake⟩
  · exact absurd rfl hv
  · refine ⟨b, c, rfl, ⟨cur, hb, by omega, fun i hi => ?_⟩, hnc, hcm⟩
    have e : (cur.toList.take (n * 1))[i]? = (rowOf d n)[i]? := by rw [htake]
    rw [Nat.mul_one, List.getElem?_take, if_pos hi] at e
    simpa [rowOf, hi] using e

/-- A heap's block: the map, the row, how often one was set. -/
def HB (w : World) (q mb : Nat) (g : Option Nat) (n c tn : Nat) : Prop := w.heap[q]? = some (.cells #[.map (some mb), sl g n c, .int .i64 tn] 66 (0, 0))
section
variable {w : World} {q mb n c tn : Nat} {g : Option Nat}
theorem HB.c0 (h : HB w q mb g n c tn) : w.cell? ⟨q, 0, none⟩ = some (.map (some mb)) := by rw [cell_of_block h]; rfl
theorem HB.c1 (h : HB w q mb g n c tn) : w.cell? ⟨q, 1, none⟩ = some (sl g n c) := by rw [cell_of_block h]; rfl
theorem HB.c2 (h : HB w q mb g n c tn) : w.cell? ⟨q, 2, none⟩ = some (.int .i64 tn) := by rw [cell_of_block h]; rfl
theorem HB.fz (h : HB w q mb g n c tn) (i : Nat) : w.frozen? ⟨q, i, none⟩ = false := unfrozen_of_block h i
theorem HB.lt (h : HB w q mb g n c tn) : q < w.heap.size := (Array.getElem?_eq_some_iff.1 h).1
theorem HB.keep {S : Nat → Prop} {w' : World} (h : HB w q mb g n c tn) (hk : Keep S w w') (hp : ¬ S q) : HB w' q mb g n c tn := (hk.block q h.lt hp).trans h
theorem HB.set1 (h : HB w q mb g n c tn) (g' : Option Nat) (n' c' : Nat) : HB (w.setCell ⟨q, 1, none⟩ (sl g' n' c')) q mb g' n' c' tn := block_setCell h _
theorem HB.set2 (h : HB w q mb g n c tn) (t' : Nat) : HB (w.setCell ⟨q, 2, none⟩ (.int .i64 t')) q mb g n c t' := block_setCell h _
theorem HB.notLs (h : HB w q mb g n c tn) {a : El} {i : Nat} (hl : LsB w a i) : a.b ≠ q := by
  intro e
  unfold LsB at hl; unfold HB at h
  rw [e, h] at hl
  injection hl with hl
  injection hl with _ hl _
  exact absurd hl (by decide)
theorem HB.notRw (h : HB w q mb g n c tn) {b n' c' : Nat} {d : Nat → El} (hr : Rw w b n' c' d) : b ≠ q := by
  intro e
  obtain ⟨cur, h1, _⟩ := hr
  unfold HB at h
  rw [e, h] at h1
  injection h1 with h1
  injection h1 with _ h1 _
  exact absurd h1 (by decide)
end

/-- What Push of the row leaves. -/
structure PushP (q mb : Nat) (g : Option Nat) (n c tn : Nat) (d : Nat → El) (a : El) (w w' : World) (g' : Nat) (c' : Nat) : Prop where
  hb : HB w' q mb (some g') (n + 1) c' tn
  od : Od w' (some g') (n + 1) c' (ins d n a)
  kp : Keep (fun k => k = q ∨ k = a.b ∨ OF g n d k) w w'
  wh : g = some g' ∨ w.heap.size ≤ g'

theorem infoPL : (Try.prog.info? 71).map (fun i => (i.zero, i.size, i.bytes)) = some (some (.pointer none), 1, 8) := by kernel_rfl

theorem pushP {q mb : Nat} {g : Option Nat} {n c tn : Nat} {d : Nat → El} {a : El} {p0 : Nat} {w w2 : World} {b' c' : Nat} (hB : HB w q mb g n c tn) (ho : Od w g n c d) (ha : LsB w a p0) (hn : n < 1000000) (hne : ¬ OF g n d a.b)
    (hok : Fl.nan a.e = false ∧ a.t < 4611686018427387904) (hR : Rw w2 b' (n + 1) c' (ins d n a)) (hc : n + 1 ≤ c') (hm : c' ≤ maxLen) (hk : Keep (fun k => (sl g n c).ownBlock = some k) (w.setCell ⟨a.b, 3, none⟩ (.int .i64 n)) w2)
    (hw : (sl (some b') (n + 1) c').ownBlock = (sl g n c).ownBlock ∨ ∃ k, (sl (some b') (n + 1) c').ownBlock = some k ∧ (w.setCell ⟨a.b, 3, none⟩ (.int .i64 n)).heap.size ≤ k) :
    HB w2 q mb g n c tn ∧ PushP q mb g n c tn d a w (w2.setCell ⟨q, 1, none⟩ (sl (some b') (n + 1) c')) b' c' := by
  have eg : ∀ k, (sl g n c).ownBlock = some k ↔ g = some k := fun k => by unfold sl; cases g <;> simp [Value.ownBlock]
  have e1 : (sl (some b') (n + 1) c').ownBlock = some b' := rfl
  have nq := hB.notLs ha
  have hgq : ∀ k, g = some k → k ≠ q := fun k e => hB.notRw (ho.row k e)
  have hga : ∀ k, g = some k → k ≠ a.b := fun k e h => hne (.inl (h ▸ e))
  have hB1 : HB (w.setCell ⟨a.b, 3, none⟩ (.int .i64 n)) q mb g n c tn := (set_other (p := ⟨a.b, 3, none⟩) (Ne.symm nq)).trans hB
  have hB2 : HB w2 q mb g n c tn := hB1.keep hk (fun e => hgq q ((eg q).1 e) rfl)
  have hA2 : LsB w2 a n := (ha.put n).keep hk (fun e => hga _ ((eg _).1 e) rfl)
  have hl2 : ∀ k, k < n → LsB w2 (d k) k := fun k hk2 => ((ho.ls k hk2).other (p := ⟨a.b, 3, none⟩) (fun e => hne (.inr ⟨k, hk2, e⟩)) _).keep hk (fun e => (ho.ls k hk2).notRow (ho.row _ ((eg _).1 e)) rfl)
  refine ⟨hB2, hB2.set1 _ _ _, ⟨fun k e => ?_, fun e => (by cases e), hc, hm, by omega, fun k hk2 => ?_, ?_, fun k hk2 => ?_⟩, ?_, ?_⟩
  · cases e
    exact hR.other (hB2.notRw hR) _
  · by_cases e : k = n
    · subst e
      rw [ins_at]; exact hA2.other nq _
    · rw [ins_old d a e]
      exact (hl2 k (by omega)).other (hB2.notLs (hl2 k (by omega))) _
  · intro i j hi hj e
    by_cases e1 : i = n <;> by_cases e2 : j = n
    · omega
    · subst e1; rw [ins_at, ins_old d a e2] at e
      exact absurd (.inr ⟨j, by omega, e.symm⟩) hne
    · subst e2; rw [ins_at, ins_old d a e1] at e
      exact absurd (.inr ⟨i, by omega, e⟩) hne
    · rw [ins_old d a e1, ins_old d a e2] at e
      exact ho.inj i j (by omega) (by omega) e
  · by_cases e : k = n
    · subst e; rw [ins_at]; exact hok
    · rw [ins_old d a e]; exact ho.ok k (by omega)
  · refine Keep.setCell ((((Keep.refl _ _).setCell (.inr (.inl rfl)) _).trans (hk.mono fun k e => .inr (.inr (.inl ((eg k).1 e)))))) (.inl rfl) _
  · rcases hw with h | ⟨k, h, h2⟩
    · left; exact (eg b').1 (h ▸ e1)
    · right
      rw [e1] at h
      cases h
      simpa [World.setCell] using h2

set_option maxHeartbeats 1000000 in
theorem push_any (q mb : Nat) (g : Option Nat) (n c tn : Nat) (d : Nat → El) (a : El) (p0 : Nat) (w : World) (hB : HB w q mb g n c tn) (ho : Od w g n c d) (ha : LsB w a p0) (hn : n < 1000000) (hne : ¬ OF g n d a.b)
    (hok : Fl.nan a.e = false ∧ a.t < 4611686018427387904) :
    Calls Try.prog 65 #[.pointer (some ⟨q, 1, none⟩), .iface 71 (.pointer (some ⟨a.b, 0, none⟩))] w fun e w' => e = .returned (.tuple #[]) ∧ ∃ g' c', PushP q mb g n c tn d a w w' g' c' := by
  have c1 := hB.c1
  have f1 := hB.fz 1
  have a3 := ha.c3
  have af := ha.fz 3
  have nq := hB.notLs ha
  have HO1 : Hid (Od (w.setCell ⟨a.b, 3, none⟩ (.int .i64 n)) g n c d) := ho.keep (S := fun k => k = a.b) (Keep.setCell (S := fun k => k = a.b) (p := ⟨a.b, 3, none⟩) (Keep.refl _ _) rfl _) (fun b hb e => hne (e ▸ hb))
  have HP : Hid (∀ w2 b' c', Rw w2 b' (n + 1) c' (ins d n a) → n + 1 ≤ c' → c' ≤ maxLen → Keep (fun k => (sl g n c).ownBlock = some k) (w.setCell ⟨a.b, 3, none⟩ (.int .i64 n)) w2 → ((sl (some b') (n + 1) c').ownBlock = (sl g n c).ownBlock ∨ ∃ k, (sl (some b') (n + 1) c').ownBlock = some k ∧ (w.setCell ⟨a.b, 3, none⟩ (.int .i64 n)).heap.size ≤ k) →
      HB w2 q mb g n c tn ∧ PushP q mb g n c tn d a w (w2.setCell ⟨q, 1, none⟩ (sl (some b') (n + 1) c')) b' c') := fun w2 b' c' h1 h2 h3 h4 h5 => pushP hB ho ha hn hne hok h1 h2 h3 h4 h5
  clear hB ho ha hne hok
  have hta := ta_run ⟨a.b, 0, none⟩
  have hs : sl g n c = .slice (g.map fun b => ⟨b, 0, none⟩) n c := rfl
  rw [hs] at c1
  go_enter Try.func65, Try.ntmps65
  go_wp2_with (at_builtin; refine wp_app1 64 71 (.pointer none) 8 Try.underlying64 infoPL (by decide) rfl rfl _ _ rfl 0 (sl g n c) n _ rfl HO1.out.own (.pointer (some ⟨a.b, 0, none⟩)) rfl (by rw [sz_set]; rfl) (by omega) (Nat.zero_le _) ?_; intro v' w2 ho2 hk2 hw2 hv2; obtain ⟨b', c', rfl, hR, hc2, hm2⟩ := Rw.of_own (rowOf_ins d n a ▸ ho2) hv2; have hP := HP.out w2 b' c' hR hc2 hm2 hk2 hw2; have hq1 := hP.1.c1; have hq2 := hP.1.fz 1; rw [show sl (some b') (n + 1) c' = Value.slice (some ⟨b', 0, none⟩) (n + 1) c' from rfl])
  go_end0
  exact ⟨rfl, b', c', hP.2⟩

/-- What Pop of the row leaves. -/
structure PopP (q mb b n c tn : Nat) (d : Nat → El) (w w' : World) : Prop where
  hb : HB w' q mb (some b) n c tn
  od : Od w' (some b) n c d
  ls : LsB w' (d n) n
  kp : Keep (fun k => k = q ∨ k = b) w w'

theorem popP {q mb b n c tn : Nat} {d : Nat → El} {w : World} (hB : HB w q mb (some b) (n + 1) c tn) (ho : Od w (some b) (n + 1) c d) :
    HB (w.setCell ⟨b, n, none⟩ (.pointer none)) q mb (some b) (n + 1) c tn ∧ PopP q mb b n c tn d w ((w.setCell ⟨b, n, none⟩ (.pointer none)).setCell ⟨q, 1, none⟩ (sl (some b) n c)) := by
  have hbq : b ≠ q := hB.notRw (ho.row b rfl)
  have hB1 : HB (w.setCell ⟨b, n, none⟩ (.pointer none)) q mb (some b) (n + 1) c tn := (set_other (p := ⟨b, n, none⟩) (Ne.symm hbq)).trans hB
  have hl : ∀ k, k < n + 1 → LsB ((w.setCell ⟨b, n, none⟩ (.pointer none)).setCell ⟨q, 1, none⟩ (sl (some b) n c)) (d k) k := fun k hk => ((ho.ls k hk).other (p := ⟨b, n, none⟩) ((ho.ls k hk).notRow (ho.row b rfl)) _).other (hB.notLs (ho.ls k hk)) _
  refine ⟨hB1, hB1.set1 _ _ _, ⟨fun k e => ?_, fun e => (by cases e), by have := ho.le; omega, ho.cl, by have := ho.few; omega, fun k hk => hl k (by omega), fun i j hi hj => ho.inj i j (by omega) (by omega), fun k hk => ho.ok k (by omega)⟩, hl n (by omega), ?_⟩
  · cases e
    obtain ⟨cur, h1, h2, h3⟩ := ho.row b rfl
    refine ⟨cur.setIfInBounds n (.pointer none), (set_other (p := ⟨q, 1, none⟩) hbq).trans (block_setCell h1 _), by simp [h2], fun k hk => ?_⟩
    rw [← h3 k (by omega)]
    have e : n ≠ k := by omega
    simp [e]
  · exact ((Keep.refl _ _).setCell (.inr rfl) _).setCell (.inl rfl) _

set_option maxHeartbeats 1000000 in
theorem opop_any (q mb b n c tn : Nat) (d : Nat → El) (w : World) (hB : HB w q mb (some b) (n + 1) c tn) (ho : Od w (some b) (n + 1) c d) :
    Calls Try.prog 64 #[.pointer (some ⟨q, 1, none⟩)] w fun e w' => e = .returned (.iface 71 (.pointer (some ⟨(d n).b, 0, none⟩))) ∧ PopP q mb b n c tn d w w' := by
  have c1 : w.cell? ⟨q, 1, none⟩ = some (.slice (some ⟨b, 0, none⟩) (n + 1) c) := hB.c1
  have f1 := hB.fz 1
  have r1 := (ho.row b rfl).cell (Nat.lt_succ_self n)
  have rf := (ho.row b rfl).fz n
  have hP := popP hB ho
  have c2 : (w.setCell ⟨b, n, none⟩ (.pointer none)).cell? ⟨q, 1, none⟩ = some (.slice (some ⟨b, 0, none⟩) (n + 1) c) := hP.1.c1
  have f2 := hP.1.fz 1
  have HP : Hid _ := hP.2
  have hfew := ho.few
  have hle : (n : Int) + 1 ≤ (c : Int) := by have := ho.le; omega
  have hbq : b ≠ q := hB.notRw (ho.row b rfl)
  clear hB ho hP
  go_enter Try.func64, Try.ntmps64
  go_wp2
  go_ret
  exact ⟨rfl, HP.out⟩

end Go.Proofs.Ytfakcjelibdnbaa
