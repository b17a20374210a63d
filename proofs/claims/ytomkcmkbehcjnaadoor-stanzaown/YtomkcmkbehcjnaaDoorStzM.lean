/- stanza.Read: a stanza, or the error with which its reader gave up. -/
import Derived.Test.YtomkcmkbehcjnaaDoorStzL
import Derived.Defers
import Derived.Recover
import Derived.Laws.Pointers
namespace Go.Proofs.YtomkcmkbehcjnaaDoor
open Go.RowKit

theorem stanza_any (r : Nat) (a : Option Addr) (n c : Nat) (X : List Int) (w : World) (h : RdA w r a n c X) (hL : Lays w) (hr5 : 5 ≤ r) :
    Calls Tryd.prog 38 #[.pointer (some ⟨r, 0, none⟩)] w (StP (rdSt X) r w) := by
  obtain ⟨N, k, E, hs⟩ : ∃ N k E, scan X 0 0 = (N, k, E) := ⟨_, _, _, rfl⟩
  by_cases hE : kerr N E = 0
  · obtain ⟨I, k1, E1, hs1⟩ : ∃ I k1 E1, scan (X.drop k) 0 0 = (I, k1, E1) := ⟨_, _, _, rfl⟩
    by_cases hE1 : E1 = 0
    · subst hE1
      obtain ⟨Y, hY⟩ : ∃ Y, (X.drop k).drop k1 = Y := ⟨_, rfl⟩
      by_cases hH : herr N Y = 0
      · exact stanza_parts r a n c X w h hL hr5 hs hE hs1 hY hH
      · exact stanza_has r a n c X w h hL hr5 hs hE hs1 hY hH
    · exact stanza_id r a n c X w h hL hs hE hs1 hE1
  · exact stanza_kind r a n c X w h hL hs hE

theorem catchR_idle (p q : Addr) (w : World) :
    CallsD Tryd.prog 37 #[.pointer (some p), .pointer (some q)] .returning w fun e u' w' => e = .returned (.tuple #[]) ∧ u' = .returning ∧ w' = w := by
  refine callsD_of_wpS Tryd.func37 rfl fun c₀ cs hu => ?_
  apply wpS_seq
  apply wpS_region
  simp [wpOpsS, go_sem, recoverD, hu, Tryd.ntmps37, Exit.thenS]
  refine wpS_of_wp ?_
  rw [show #[Value.pointer (some p), Value.pointer (some q)] ++ ((Array.replicate 8 undef).setIfInBounds 1 Value.nilIface).setIfInBounds 0 Value.nilIface = #[Value.pointer (some p), Value.pointer (some q), Value.nilIface, Value.nilIface, undef, undef, undef, undef, undef, undef] from rfl]
  go_wp2
  cases c₀
  simp_all [bodyPostS, results, Tryd.results37]

theorem catchR_panicking (b q : Nat) (vs : List Value) (x n : Int) (older : List PanicEntry) (w : World) (hz : Sz8 w b vs) (hc : w.cell? ⟨q, 0, none⟩ = some (.int .i64 x)) (hf : w.frozen? ⟨q, 0, none⟩ = false) (hbq : b ≠ q) :
    CallsD Tryd.prog 37 #[.pointer (some ⟨b, 0, none⟩), .pointer (some ⟨q, 0, none⟩)] (.panicking ({ v := .iface 72 (.agg #[.int .i64 n]), recovered := false } :: older)) w fun e u' w' =>
      e = .returned (.tuple #[]) ∧ u' = .panicking ({ v := .iface 72 (.agg #[.int .i64 n]), recovered := true } :: older) ∧ Sz8 w' b zcells ∧ w'.cell? ⟨q, 0, none⟩ = some (.int .i64 n) ∧ Keep (fun k => k = b ∨ k = q) w w' := by
  have hsf := run_store_float
  refine callsD_of_wpS Tryd.func37 rfl fun c₀ cs hu => ?_
  apply wpS_seq
  apply wpS_region
  simp [wpOpsS, go_sem, recoverD, hu, Tryd.ntmps37, Exit.thenS]
  refine wpS_of_wp ?_
  rw [show #[Value.pointer (some ⟨b, 0, none⟩), Value.pointer (some ⟨q, 0, none⟩)] ++ ((Array.replicate 8 undef).setIfInBounds 1 (Value.iface 72 (Value.agg #[Value.int IntKind.i64 n]))).setIfInBounds 0 (Value.iface 72 (Value.agg #[Value.int IntKind.i64 n])) = #[Value.pointer (some ⟨b, 0, none⟩), Value.pointer (some ⟨q, 0, none⟩), Value.iface 72 (Value.agg #[Value.int IntKind.i64 n]), Value.iface 72 (Value.agg #[Value.int IntKind.i64 n]), undef, undef, undef, undef, undef, undef] from rfl]
  go_wp2
  refine wp_region_lx (fun _ => True) [] 6 (by kernel_rfl) (by kernel_rfl) ?_
  have hW0 : Keep (fun _ => False) w w.drew := Keep.ofBelow (Below.refl _ _).drew
  have hz0 := hz.keep hW0 (fun h => h)
  have hc0 := hW0.cell hc (fun h => h)
  have hf0 := keep_thaw hW0 (World.block_lt_of_cell? w _ hc) (fun h => h) hf
  generalize w.drew = W0 at hz0 hc0 hf0 hW0 ⊢
  have HS : (fun _ : World => True) W0 := trivial
  refine lx_rd 0 (.agg #[.int .i64 0, .int .u64 0, .string ⟨#[]⟩, .string ⟨#[]⟩, .string ⟨#[]⟩, .slice none 0 0, .int .i64 0, .float .f64 0]) (by kernel_rfl) (fun _ _ d _ _ h => by cases d <;> exact h) (by kernel_rfl) HS rfl rfl rfl (fun w' hS => ?hR0) ?_
  case hR0 => first | (go_simp; rfl) | go_simp
  simp only [List.setIfInBounds_toArray, List.set_cons_zero, List.set_cons_succ]
  refine lx_rd 1 ?vR1 (by kernel_rfl) (fun _ _ d _ _ h => by cases d <;> exact h) (by kernel_rfl) HS rfl rfl rfl (fun w' hS => ?hR1) ?_
  case hR1 => first | (go_simp; rfl) | go_simp
  simp only [List.setIfInBounds_toArray, List.set_cons_zero, List.set_cons_succ]
  refine lx_rd 2 (.agg #[.int .i64 n]) (by kernel_rfl) (fun _ _ d _ _ h => by cases d <;> exact h) (by kernel_rfl) HS rfl rfl rfl (fun w' hS => ?hR2) ?_
  case hR2 => simp [Instr.typeAssert, go_sem]
  simp only [List.setIfInBounds_toArray, List.set_cons_zero, List.set_cons_succ]
  refine lx_rd 3 (.int .i64 n) (by kernel_rfl) (fun _ _ d _ _ h => by cases d <;> exact h) (by kernel_rfl) HS rfl rfl rfl (fun w' hS => ?hR3) ?_
  case hR3 => simp [Instr.field, go_sem, asAgg]
  simp only [List.setIfInBounds_toArray, List.set_cons_zero, List.set_cons_succ]
  obtain ⟨hz8, hk8⟩ := store8 (K := 0) (I := 0) (A := ⟨#[]⟩) (B := ⟨#[]⟩) (T := ⟨#[]⟩) (la := none) (ln := 0) (lc := 0) (N := 0) (F := 0) hz0
  have z0 := hz0.cell 0 (by omega); have z1 := hz0.cell 1 (by omega); have z2 := hz0.cell 2 (by omega); have z3 := hz0.cell 3 (by omega); have z4 := hz0.cell 4 (by omega); have z5 := hz0.cell 5 (by omega); have z6 := hz0.cell 6 (by omega); have z7 := hz0.cell 7 (by omega)
  have t0 := hz0.thaw 0; have t1 := hz0.thaw 1; have t2 := hz0.thaw 2; have t3 := hz0.thaw 3; have t4 := hz0.thaw 4; have t5 := hz0.thaw 5; have t6 := hz0.thaw 6; have t7 := hz0.thaw 7
  refine lx_one 4 (by kernel_rfl) (stepT_store (w' := put8 W0 b 0 0 ⟨#[]⟩ ⟨#[]⟩ ⟨#[]⟩ none 0 0 0 0) rfl rfl rfl ?r4 (fun _ => trivial) ?_)
  case r4 => first | (go_simp; rfl) | go_simp
  clear z0 z1 z2 z3 z4 z5 z6 z7 t0 t1 t2 t3 t4 t5 t6 t7
  have hc8 := hk8.cell hc0 (fun e => hbq e.symm)
  have hf8 := keep_thaw hk8 (World.block_lt_of_cell? W0 _ hc0) (fun e => hbq e.symm) hf0
  unfold put8
  generalize World.setCell _ _ (.float .f64 0) = w8 at hz8 hk8 hc8 hf8 ⊢
  refine lx_one 5 (by kernel_rfl) (stepT_store (w' := w8.setCell ⟨q, 0, none⟩ (.int .i64 n)) rfl rfl rfl ?r5 (fun _ => trivial) ?_)
  case r5 => first | (go_simp; rfl) | go_simp
  refine lx_nil (by kernel_rfl) ?_
  have hk9 : Keep (fun k => k = q) w8 (w8.setCell ⟨q, 0, none⟩ (.int .i64 n)) := (Keep.refl (fun k => k = q) w8).setCell (p := ⟨q, 0, none⟩) (show (fun k => k = q) q from rfl) _
  have hz9 := hz8.keep hk9 (fun e => hbq e)
  have hc9 : (w8.setCell ⟨q, 0, none⟩ (.int .i64 n)).cell? ⟨q, 0, none⟩ = some (.int .i64 n) := World.cell?_setCell_same _ _ _ hc8
  have hkk : Keep (fun k => k = b ∨ k = q) w (w8.setCell ⟨q, 0, none⟩ (.int .i64 n)) := ((hW0.mono (fun _ h => h.elim)).trans (hk8.mono (fun _ e => Or.inl e))).trans (hk9.mono (fun _ e => Or.inr e))
  generalize w8.setCell ⟨q, 0, none⟩ (.int .i64 n) = w9 at hz9 hc9 hkk ⊢
  go_wp2
  simp [bodyPostS, results, Tryd.results37]
  exact ⟨hz9, hc9, hkk⟩

end Go.Proofs.YtomkcmkbehcjnaaDoor

/- stanza.Read. -/
namespace Go.Proofs.YtomkcmkbehcjnaaDoor
open Go.RowKit

abbrev SzV (p : Nat × Nat × Sz × Nat) (la : Option Addr) (ln lc : Nat) : Value := .agg #[.int .i64 (p.1 : Int), .int .u64 (p.2.1 : Nat), .string p.2.2.1.A, .string p.2.2.1.B, .string p.2.2.1.T, .slice la ln lc, .int .i64 p.2.2.1.N, .float .f64 p.2.2.1.F]
/-- What Read answers. -/
abbrev AnsR (p : Nat × Nat × Sz × Nat) (w : World) (e : Ending) (w' : World) : Prop :=
  ∃ la ln lc, e = .returned (.tuple #[SzV p la ln lc, .int .i64 (p.2.2.2 : Int)]) ∧ LO w' w.heap.size la ln lc p.2.2.1.L ∧ Below w.heap.size w w'

theorem rdSt_zero (X : List Int) (h : (rdSt X).2.2.2 ≠ 0) : rdSt X = (0, 0, sz0, (rdSt X).2.2.2) := by
  unfold rdSt at *
  dsimp only at *
  split
  · rfl
  · split
    · rfl
    · split
      · rfl
      · split
        · rfl
        · split
          · rfl
          · rename_i h1 h2 h3 h4 h5
            rw [if_neg h1, if_neg h2, if_neg h3, if_neg h4, if_neg h5] at h
            exact absurd rfl h

theorem LO.weak {w : World} {B B' : Nat} {la : Option Addr} {ln lc : Nat} {l : List ByteArray} (h : LO w B la ln lc l) (hB : B' ≤ B) : LO w B' la ln lc l :=
  ⟨h.1, h.2.imp id (fun ⟨g, e, h1, r⟩ => ⟨g, e, Nat.le_trans hB h1, r⟩)⟩

theorem alloc_at {W : World} {o : Obj} {k : Nat} (h : W.heap.size = k) : (W.alloc o).heap[k]? = some o := by
  subst h
  show (W.heap.push o)[W.heap.size]? = _
  simp
theorem cell_one {w : World} {B : Nat} {v : Value} {t : TypeId} (h : w.heap[B]? = some (.cells #[v] t (0, 0))) : w.cell? ⟨B, 0, none⟩ = some v := by simp [World.cell?, h]

theorem SzC8.new (w : World) (o : Obj) : Sz8 ((w.alloc (.cells #[.int .i64 0, .int .u64 0, .string ⟨#[]⟩, .string ⟨#[]⟩, .string ⟨#[]⟩, .slice none 0 0, .int .i64 0, .float .f64 0] 26)).alloc o) w.heap.size zcells :=
  (Sz8.new w).keep (Keep.ofBelow (S := fun _ => False) ((Below.refl _ _).alloc (Nat.le_refl _) o)) (fun h => h)

set_option maxHeartbeats 1600000 in
theorem read_any (a : Option Addr) (n c : Nat) (X : List Int) (w : World) (hR : Rd w a n c X) (hn : n ≤ 100000) (hL : Lays w) : Calls Tryd.prog 16 #[.slice a n c] w (AnsR (rdSt X) w) := by
  have hmf : ∀ (fn : Fn) (first cap : Array Value) (w : World), (Instr.makeFunc fn first cap).run Tryd.prog w = .ok (.func fn first cap) w := fun _ _ _ _ => rfl
  have hsf := run_store_float
  have hw5 : 5 ≤ w.heap.size := by
    have := World.block_lt_of_cell? w _ (hL.tabs.lo 0 (by omega))
    show 5 ≤ _
    exact this
  have hb2 : Below w.heap.size w ((w.alloc (.cells #[.int .i64 0, .int .u64 0, .string ⟨#[]⟩, .string ⟨#[]⟩, .string ⟨#[]⟩, .slice none 0 0, .int .i64 0, .float .f64 0] 26)).alloc (.cells #[.int .i64 0] 29)) := ((Below.refl _ _).alloc (Nat.le_refl _) _).alloc (by simp) _
  have hb3 : Below w.heap.size w (((w.alloc (.cells #[.int .i64 0, .int .u64 0, .string ⟨#[]⟩, .string ⟨#[]⟩, .string ⟨#[]⟩, .slice none 0 0, .int .i64 0, .float .f64 0] 26)).alloc (.cells #[.int .i64 0] 29)).alloc (.cells #[.slice a n c] 74)) := hb2.alloc (by simp <;> omega) _
  have k3 : Keep (fun _ => False) ((w.alloc (.cells #[.int .i64 0, .int .u64 0, .string ⟨#[]⟩, .string ⟨#[]⟩, .string ⟨#[]⟩, .slice none 0 0, .int .i64 0, .float .f64 0] 26)).alloc (.cells #[.int .i64 0] 29)) (((w.alloc (.cells #[.int .i64 0, .int .u64 0, .string ⟨#[]⟩, .string ⟨#[]⟩, .string ⟨#[]⟩, .slice none 0 0, .int .i64 0, .float .f64 0] 26)).alloc (.cells #[.int .i64 0] 29)).alloc (.cells #[.slice a n c] 74)) := Keep.ofBelow ((Below.refl _ _).alloc (Nat.le_refl _) _)
  have hz3 : Sz8 (((w.alloc (.cells #[.int .i64 0, .int .u64 0, .string ⟨#[]⟩, .string ⟨#[]⟩, .string ⟨#[]⟩, .slice none 0 0, .int .i64 0, .float .f64 0] 26)).alloc (.cells #[.int .i64 0] 29)).alloc (.cells #[.slice a n c] 74)) w.heap.size zcells := (SzC8.new w _).keep k3 (fun h => h)
  have hc2 : ((w.alloc (.cells #[.int .i64 0, .int .u64 0, .string ⟨#[]⟩, .string ⟨#[]⟩, .string ⟨#[]⟩, .slice none 0 0, .int .i64 0, .float .f64 0] 26)).alloc (.cells #[.int .i64 0] 29)).heap[w.heap.size + 1]? = some (.cells #[.int .i64 0] 29 (0, 0)) := alloc_at (by simp)
  have hc3 : (((w.alloc (.cells #[.int .i64 0, .int .u64 0, .string ⟨#[]⟩, .string ⟨#[]⟩, .string ⟨#[]⟩, .slice none 0 0, .int .i64 0, .float .f64 0] 26)).alloc (.cells #[.int .i64 0] 29)).alloc (.cells #[.slice a n c] 74)).cell? ⟨w.heap.size + 1, 0, none⟩ = some (.int .i64 0) := k3.cell (cell_one hc2) (fun h => h)
  have hf3 : (((w.alloc (.cells #[.int .i64 0, .int .u64 0, .string ⟨#[]⟩, .string ⟨#[]⟩, .string ⟨#[]⟩, .slice none 0 0, .int .i64 0, .float .f64 0] 26)).alloc (.cells #[.int .i64 0] 29)).alloc (.cells #[.slice a n c] 74)).frozen? ⟨w.heap.size + 1, 0, none⟩ = false := keep_thaw k3 (by simp) (fun h => h) (thaw_at hc2 0)
  have hr3 : (((w.alloc (.cells #[.int .i64 0, .int .u64 0, .string ⟨#[]⟩, .string ⟨#[]⟩, .string ⟨#[]⟩, .slice none 0 0, .int .i64 0, .float .f64 0] 26)).alloc (.cells #[.int .i64 0] 29)).alloc (.cells #[.slice a n c] 74)).heap[w.heap.size + 1 + 1]? = some (.cells #[.slice a n c] 74 (0, 0)) := alloc_at (by simp)
  have hA3 : RdA (((w.alloc (.cells #[.int .i64 0, .int .u64 0, .string ⟨#[]⟩, .string ⟨#[]⟩, .string ⟨#[]⟩, .slice none 0 0, .int .i64 0, .float .f64 0] 26)).alloc (.cells #[.int .i64 0] 29)).alloc (.cells #[.slice a n c] 74)) (w.heap.size + 1 + 1) a n c X := ⟨cell_one hr3, thaw_at hr3 0, hR.carry (Nat.le_refl _) hb3, fun h0 ad he => by have := hR.blk h0 he; omega, hn⟩
  have cS := stanza_any (w.heap.size + 1 + 1) a n c X _ hA3 (hL.carry hb3) (by omega)
  have HZ : Hid ((rdSt X).2.2.2 ≠ 0 → rdSt X = (0, 0, sz0, (rdSt X).2.2.2)) := rdSt_zero X
  have hsz : (((w.alloc (.cells #[.int .i64 0, .int .u64 0, .string ⟨#[]⟩, .string ⟨#[]⟩, .string ⟨#[]⟩, .slice none 0 0, .int .i64 0, .float .f64 0] 26)).alloc (.cells #[.int .i64 0] 29)).alloc (.cells #[.slice a n c] 74)).heap.size = w.heap.size + 1 + 1 + 1 := by simp
  generalize rdSt X = p at cS HZ ⊢
  obtain ⟨K, I, z, E⟩ := p
  by_cases hE : E = 0
  · subst hE
    obtain ⟨A, B, T, L, N, F⟩ := z
    have cS' := cS.mono (fun e w' g => (g.resolve_left (fun g => g.1 rfl)).2 : ∀ e w', _ → ∃ la ln lc, e = .returned (.agg #[.int .i64 (K : Int), .int .u64 I, .string A, .string B, .string T, .slice la ln lc, .int .i64 N, .float .f64 F]) ∧ LO w' ((((w.alloc (.cells #[.int .i64 0, .int .u64 0, .string ⟨#[]⟩, .string ⟨#[]⟩, .string ⟨#[]⟩, .slice none 0 0, .int .i64 0, .float .f64 0] 26)).alloc (.cells #[.int .i64 0] 29)).alloc (.cells #[.slice a n c] 74)).heap.size + 1) la ln lc L ∧ Keep (fun k => k = w.heap.size + 1 + 1) (((w.alloc (.cells #[.int .i64 0, .int .u64 0, .string ⟨#[]⟩, .string ⟨#[]⟩, .string ⟨#[]⟩, .slice none 0 0, .int .i64 0, .float .f64 0] 26)).alloc (.cells #[.int .i64 0] 29)).alloc (.cells #[.slice a n c] 74)) w')
    clear cS HZ hA3 hr3 hc2
    go_enter_defers Tryd.func16, Tryd.ntmps16
    go_wp2_with (go_at_call 38; refine cS'.mono ?_; rintro e w4 ⟨la, ln, lc, rfl, hlo, hk4⟩; have hz4 := hz3.keep hk4 (fun e => by omega); have hc4 := hk4.cell hc3 (fun e => by simp at e); have z0 := hz4.cell 0 (by omega); have z1 := hz4.cell 1 (by omega); have z2 := hz4.cell 2 (by omega); have z3 := hz4.cell 3 (by omega); have z4 := hz4.cell 4 (by omega); have z5 := hz4.cell 5 (by omega); have z6 := hz4.cell 6 (by omega); have z7 := hz4.cell 7 (by omega); have t0 := hz4.thaw 0; have t1 := hz4.thaw 1; have t2 := hz4.thaw 2; have t3 := hz4.thaw 3; have t4 := hz4.thaw 4; have t5 := hz4.thaw 5; have t6 := hz4.thaw 6; have t7 := hz4.thaw 7; have hf4 := keep_thaw hk4 (by omega) (fun e => by simp at e) hf3)
    obtain ⟨hz8, hk8⟩ := store8 (K := (K : Int)) (I := I) (A := A) (B := B) (T := T) (la := la) (ln := ln) (lc := lc) (N := N) (F := F) hz4
    have hc8 := hk8.cell hc4 (fun e => by simp at e)
    have hlo8 := hlo.keep hk8 (fun g hg _ e => by omega)
    clear z0 z1 z2 z3 z4 z5 z6 z7 t0 t1 t2 t3 t4 t5 t6 t7
    generalize World.setCell _ _ (.float .f64 F) = w8 at hz8 hk8 hc8 hlo8 ⊢
    have hk9 : Keep (fun k => k = w.heap.size + 1) w8 (w8.setCell ⟨w.heap.size + 1, 0, none⟩ (.int .i64 0)) := (Keep.refl (fun k => k = w.heap.size + 1) w8).setCell (p := ⟨w.heap.size + 1, 0, none⟩) (show (fun k => k = w.heap.size + 1) (w.heap.size + 1) from rfl) _
    have hz9 := hz8.keep hk9 (fun e => by simp at e)
    have hc9 : (w8.setCell ⟨w.heap.size + 1, 0, none⟩ (.int .i64 0)).cell? ⟨w.heap.size + 1, 0, none⟩ = some (.int .i64 0) := World.cell?_setCell_same _ _ _ hc8
    have hlo9 := hlo8.keep hk9 (fun g hg _ e => by omega)
    have hbw : Below w.heap.size w (w8.setCell ⟨w.heap.size + 1, 0, none⟩ (.int .i64 0)) := hb3.trans ((((hk4.mono (fun _ e => (show w.heap.size ≤ _ by omega))).trans (hk8.mono (fun _ e => (show w.heap.size ≤ _ by omega)))).trans (hk9.mono (fun _ e => (show w.heap.size ≤ _ by omega)))).below (by omega) (fun _ h => h))
    generalize w8.setCell ⟨w.heap.size + 1, 0, none⟩ (.int .i64 0) = w9 at hz9 hc9 hlo9 hbw ⊢
    obtain ⟨q0, q1, q2, q3, q4, q5, q6, q7⟩ := hz9.sz
    refine leaves_cons (f := 37) (args := #[.pointer (some ⟨w.heap.size, 0, none⟩), .pointer (some ⟨w.heap.size + 1, 0, none⟩)]) (by simp) (by simp [go_sem]) ?_
    refine (catchR_idle _ _ _).mono ?_
    rintro e u' w10 ⟨rfl, rfl, rfl⟩
    simp [Leaves, settle, results, Tryd.results16, go_sem, q0, q1, q2, q3, q4, q5, q6, q7, hc9]
    exact ⟨la, ln, lc, rfl, hlo9.weak (by omega), hbw⟩
  · have hp := HZ.out hE
    simp only [Prod.mk.injEq] at hp
    obtain ⟨rfl, rfl, rfl, _⟩ := hp
    have cS' := cS.mono (fun e w' g => (g.resolve_right (fun g => hE g.1)).2 : ∀ e w', _ → e = .panicked (gaveUp E) ∧ Keep (fun k => k = w.heap.size + 1 + 1) (((w.alloc (.cells #[.int .i64 0, .int .u64 0, .string ⟨#[]⟩, .string ⟨#[]⟩, .string ⟨#[]⟩, .slice none 0 0, .int .i64 0, .float .f64 0] 26)).alloc (.cells #[.int .i64 0] 29)).alloc (.cells #[.slice a n c] 74)) w')
    clear cS HZ hA3 hr3 hc2
    go_enter_defers Tryd.func16, Tryd.ntmps16
    go_wp2_with (go_at_call 38; refine cS'.mono ?_; rintro e w4 ⟨rfl, hk4⟩)
    have hz4 := hz3.keep hk4 (fun e => by omega)
    have hc4 := hk4.cell hc3 (fun e => by simp at e)
    have hf4 := keep_thaw hk4 (by omega) (fun e => by simp at e) hf3
    refine leaves_cons (f := 37) (args := #[.pointer (some ⟨w.heap.size, 0, none⟩), .pointer (some ⟨w.heap.size + 1, 0, none⟩)]) (by simp) (by simp [go_sem]) ?_
    refine (catchR_panicking w.heap.size (w.heap.size + 1) zcells 0 E [] _ hz4 hc4 hf4 (by omega)).mono ?_
    rintro e u' w5 ⟨rfl, rfl, hz5, hc5, hk5⟩
    have hbw : Below w.heap.size w w5 := hb3.trans (((hk4.mono (fun _ e => (show w.heap.size ≤ _ by omega))).trans (hk5.mono (fun _ e => (show w.heap.size ≤ _ by omega)))).below (by omega) (fun _ h => h))
    obtain ⟨q0, q1, q2, q3, q4, q5, q6, q7⟩ := Sz8.sz (K := 0) (I := 0) (A := ⟨#[]⟩) (B := ⟨#[]⟩) (T := ⟨#[]⟩) (la := none) (ln := 0) (lc := 0) (N := 0) (F := 0) hz5
    simp [Leaves, settle, results, Tryd.results16, go_sem, q0, q1, q2, q3, q4, q5, q6, q7, hc5]
    exact ⟨none, 0, 0, rfl, ⟨(fun _ h => by cases h), .inl ⟨rfl, rfl, rfl, rfl⟩⟩, hbw⟩

end Go.Proofs.YtomkcmkbehcjnaaDoor

/- wakes: the document's runs that each law asks for first. -/
namespace Go.Proofs.YtomkcmkbehcjnaaDoor
open Go.RowKit

theorem chk_w : chk 5 ⟨#[]⟩ ⟨#[]⟩ ⟨#[]⟩ [] 0 0 = 0 := by decide +kernel
theorem form_w : wform 5 7 ⟨#[]⟩ ⟨#[]⟩ ⟨#[]⟩ [] 0 0 = [5, 7, 0] := by decide +kernel
theorem str_w : strOfNums [5, 7, 0] = ⟨#[5, 7, 0]⟩ := by decide +kernel
theorem read_w : rdSt [15, 0, 8, 1, 0] = (15, 0, ⟨⟨#[]⟩, ⟨#[]⟩, ⟨#[]⟩, [⟨#[]⟩], 0, 0⟩, 0) := by kernel_rfl
theorem bd_w : Bd [15, 0, 8, 1, 0] := by intro x hx; simp at hx; omega
theorem bd_w3 : Bd [5, 7, 0] := by intro x hx; simp at hx; omega

theorem rd_w (w : World) : Rd (w.alloc (.cells #[.int .u8 15, .int .u8 0, .int .u8 8, .int .u8 1, .int .u8 0] 5)) (some ⟨w.heap.size, 0, none⟩) 5 5 [15, 0, 8, 1, 0] := by
  refine ⟨rfl, Nat.le_refl _, by unfold maxLen; omega, (fun h => by cases h), bd_w, fun ad had j hj => ?_⟩
  cases had
  rw [add_flat]
  match j, hj with
  | 0, _ => simp
  | 1, _ => simp
  | 2, _ => simp
  | 3, _ => simp
  | 4, _ => simp

theorem write_w (w : World) (hL : Lays w) : Calls Tryd.prog 9 #[.agg #[.int .i64 5, .int .u64 7, .string ⟨#[]⟩, .string ⟨#[]⟩, .string ⟨#[]⟩, .slice none 0 0, .int .i64 0, .float .f64 0]] w fun e w' => ∃ a1 c1, e = .returned (.tuple #[.slice a1 3 c1, .int .i64 0]) ∧ Rd w' a1 3 c1 [5, 7, 0] ∧ Below w.heap.size w w' := by
  refine (write_ok 5 7 ⟨#[]⟩ ⟨#[]⟩ ⟨#[]⟩ none 0 0 0 0 [] w hL (srd_nil w) (by omega) (by omega) (by omega) (by omega) chk_w).mono ?_
  rw [form_w]
  rintro e w' ⟨v, rfl, ho, hb⟩
  obtain ⟨a1, c1, rfl, hr⟩ := Rd.ofOwn ho bd_w3
  exact ⟨a1, c1, rfl, hr, hb⟩

set_option maxHeartbeats 1600000 in
theorem wakes_any (w : World) (hL : Lays w) : Calls Tryd.prog 14 #[] w fun e w' => e = .returned (.bool true) ∧ Below w.heap.size w w' := by
  have hsf := run_store_float
  go_enter Tryd.func14, Tryd.ntmps14
  go_wp2_with (first
    | (go_at_call 9; refine (write_w _ hL).mono ?_; rintro e w1 ⟨a1, c1, rfl, hr1, hb1⟩)
    | (go_at_call 16; have hb2 : Below w1.heap.size w1 (w1.alloc (.cells #[.int .u8 15, .int .u8 0, .int .u8 8, .int .u8 1, .int .u8 0] 5)) := (Below.refl _ _).alloc (Nat.le_refl _) _; have cR := read_any _ 5 5 _ _ (rd_w w1) (by omega) ((hL.carry hb1).carry hb2); rw [read_w] at cR; refine cR.mono ?_; rintro e w3 ⟨la, ln, lc, rfl, hlo, hb3⟩; have hl1 : 1 = ln := hlo.len; subst hl1; have hb3' := hb2.trans (hb3.mono hb2.size); have hb4 : Below w1.heap.size w1 (w3.alloc (.cells #[.int .i64 15, .int .u64 0, .string ⟨#[]⟩, .string ⟨#[]⟩, .string ⟨#[]⟩, .slice la 1 lc, .int .i64 0, .float .f64 0] 26)) := hb3'.alloc hb3'.size _; have hcv := (hr1.carry (Nat.le_refl _) hb4).string; rw [str_w] at hcv)
    | (go_at_call 12; refine (client_any _ _).mono ?_; rintro e w5 ⟨rfl, rfl⟩))
  go_ret
  exact ⟨rfl, hb1.trans (hb4.mono hb1.size)⟩

end Go.Proofs.YtomkcmkbehcjnaaDoor
