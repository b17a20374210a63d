/- stanza.Read: a stanza, or the error with which its reader gave up. -/
import Derived.Test.YtomkcmkbehcjnaaDoorStzL
import Derived.Defers
import Derived.Recover
import Derived.Laws.Pointers
namespace Go.Proofs.YtomkcmkbehcjnaaDoor
open Go.RowKit

theorem stanza_any (r : Nat) (a : Option Addr) (n c : Nat) (X : List Int) (w : World) (h : RdA w r a n c X) (hL : Lays w) (hr5 : 5 ≤ r) :
    Calls Tryd.prog 38 #[.pointer (some ⟨r, 0, none⟩)] w (StP (rdSt X) r w) := by
  obtain ⟨N, k, E, hs⟩ : ∃ N k E, scan X 0 0 = (N, k, E) := ⟨_, _, _, rfl⟩
  by_cases hE : kerr N E = 0
  · obtain ⟨I, k1, E1, hs1⟩ : ∃ I k1 E1, scan (X.drop k) 0 0 = (I, k1, E1) := ⟨_, _, _, rfl⟩
    by_cases hE1 : E1 = 0
    · subst hE1
      obtain ⟨Y, hY⟩ : ∃ Y, (X.drop k).drop k1 = Y := ⟨_, rfl⟩
      by_cases hH : herr N Y = 0
      · exact stanza_parts r a n c X w h hL hr5 hs hE hs1 hY hH
      · exact stanza_has r a n c X w h hL hr5 hs hE hs1 hY hH
    · exact stanza_id r a n c X w h hL hs hE hs1 hE1
  · exact stanza_kind r a n c X w h hL hs hE

theorem catchR_idle (p q : Addr) (w : World) :
    CallsD Tryd.prog 37 #[.pointer (some p), .pointer (some q)] .returning w fun e u' w' => e = .returned (.tuple #[]) ∧ u' = .returning ∧ w' = w := by
  refine callsD_of_wpS Tryd.func37 rfl fun c₀ cs hu => ?_
  apply wpS_seq
  apply wpS_region
  simp [wpOpsS, go_sem, recoverD, hu, Tryd.ntmps37, Exit.thenS]
  refine wpS_of_wp ?_
  rw [show #[Value.pointer (some p), Value.pointer (some q)] ++ ((Array.replicate 8 undef).setIfInBounds 1 Value.nilIface).setIfInBounds 0 Value.nilIface = #[Value.pointer (some p), Value.pointer (some q), Value.nilIface, Value.nilIface, undef, undef, undef, undef, undef, undef] from rfl]
  go_wp2
  cases c₀
  simp_all [bodyPostS, results, Tryd.results37]

theorem catchR_panicking (b q : Nat) (vs : List Value) (x n : Int) (older : List PanicEntry) (w : World) (hz : Sz8 w b vs) (hc : w.cell? ⟨q, 0, none⟩ = some (.int .i64 x)) (hf : w.frozen? ⟨q, 0, none⟩ = false) (hbq : b ≠ q) :
    CallsD Tryd.prog 37 #[.pointer (some ⟨b, 0, none⟩), .pointer (some ⟨q, 0, none⟩)] (.panicking ({ v := .iface 72 (.agg #[.int .i64 n]), recovered := false } :: older)) w fun e u' w' =>
      e = .returned (.tuple #[]) ∧ u' = .panicking ({ v := .iface 72 (.agg #[.int .i64 n]), recovered := true } :: older) ∧ Sz8 w' b zcells ∧ w'.cell? ⟨q, 0, none⟩ = some (.int .i64 n) ∧ Keep (fun k => k = b ∨ k = q) w w' := by
  have hsf := run_store_float
  refine callsD_of_wpS Tryd.func37 rfl fun c₀ cs hu => ?_
  apply wpS_seq
  apply wpS_region
  simp [wpOpsS, go_sem, recoverD, hu, Tryd.ntmps37, Exit.thenS]
  refine wpS_of_wp ?_
  rw [show #[Value.pointer (some ⟨b, 0, none⟩), Value.pointer (some ⟨q, 0, none⟩)] ++ ((Array.replicate 8 undef).setIfInBounds 1 (Value.iface 72 (Value.agg #[Value.int IntKind.i64 n]))).setIfInBounds 0 (Value.iface 72 (Value.agg #[Value.int IntKind.i64 n])) = #[Value.pointer (some ⟨b, 0, none⟩), Value.pointer (some ⟨q, 0, none⟩), Value.iface 72 (Value.agg #[Value.int IntKind.i64 n]), Value.iface 72 (Value.agg #[Value.int IntKind.i64 n]), undef, undef, undef, undef, undef, undef] from rfl]
  go_wp2
  refine wp_region_lx (fun _ => True) [] 6 (by kernel_rfl) (by kernel_rfl) ?_
  have hW0 : Keep (fun _ => False) w w.drew := Keep.ofBelow (Below.refl _ _).drew
  have hz0 := hz.keep hW0 (fun h => h)
  have hc0 := hW0.cell hc (fun h => h)
  have hf0 := keep_thaw hW0 (World.block_lt_of_cell? w _ hc) (fun h => h) hf
  generalize w.drew = W0 at hz0 hc0 hf0 hW0 ⊢
  have HS : (fun _ : World => True) W0 := trivial
  refine lx_rd 0 (.agg #[.int .i64 0, .int .u64 0, .string ⟨#[]⟩, .string ⟨#[]⟩, .string ⟨#[]⟩, .slice none 0 0, .int .i64 0, .float .f64 0]) (by kernel_rfl) (fun _ _ d _ _ h => by cases d <;> exact h) (by kernel_rfl) HS rfl rfl rfl (fun w' hS => ?hR0) ?_
  case hR0 => first | (go_simp; rfl) | go_simp
  simp only [List.setIfInBounds_toArray, List.set_cons_zero, List.set_cons_succ]
  refine lx_rd 1 ?vR1 (by kernel_rfl) (fun _ _ d _ _ h => by cases d <;> exact h) (by kernel_rfl) HS rfl rfl rfl (fun w' hS => ?hR1) ?_
  case hR1 => first | (go_simp; rfl) | go_simp
  simp only [List.setIfInBounds_toArray, List.set_cons_zero, List.set_cons_succ]
  refine lx_rd 2 (.agg #[.int .i64 n]) (by kernel_rfl) (fun _ _ d _ _ h => by cases d <;> exact h) (by kernel_rfl) HS rfl rfl rfl (fun w' hS => ?hR2) ?_
  case hR2 => simp [Instr.typeAssert, go_sem]
  simp only [List.setIfInBounds_toArray, List.set_cons_zero, List.set_cons_succ]
  refine lx_rd 3 (.int .i64 n) (by kernel_rfl) (fun _ _ d _ _ h => by cases d <;> exact h) (by kernel_rfl) HS rfl rfl rfl (fun w' hS => ?hR3) ?_
  case hR3 => simp [Instr.field, go_sem, asAgg]
  simp only [List.setIfInBounds_toArray, List.set_cons_zero, List.set_cons_succ]
  obtain ⟨hz8, hk8⟩ := store8 (K := 0) (I := 0) (A := ⟨#[]⟩) (B := ⟨#[]⟩) (T := ⟨#[]⟩) (la := none) (ln := 0) (lc := 0) (N := 0) (F := 0) hz0
  have z0 := hz0.cell 0 (by omega); have z1 := hz0.cell 1 (by omega); have z2 := hz0.cell 2 (by omega); have z3 := hz0.cell 3 (by omega); have z4 := hz0.cell 4 (by omega); have z5 := hz0.cell 5 (by omega); have z6 := hz0.cell 6 (by omega); have z7 := hz0.cell 7 (by omega)
  have t0 := hz0.thaw 0; have t1 := hz0.thaw 1; have t2 := hz0.thaw 2; have t3 := hz0.thaw 3; have t4 := hz0.thaw 4; have t5 := hz0.thaw 5; have t6 := hz0.thaw 6; have t7 := hz0.thaw 7
  refine lx_one 4 (by kernel_rfl) (stepT_store (w' := put8 W0 b 0 0 ⟨#[]⟩ ⟨#[]⟩ ⟨#[]⟩ none 0 0 0 0) rfl rfl rfl ?r4 (fun _ => trivial) ?_)
  case r4 => first | (go_simp; rfl) | go_simp
  clear z0 z1 z2 z3 z4 z5 z6 z7 t0 t1 t2 t3 t4 t5 t6 t7
  have hc8 := hk8.cell hc0 (fun e => hbq e.symm)
  have hf8 := keep_thaw hk8 (World.block_lt_of_cell? W0 _ hc0) (fun e => hbq e.symm) hf0
  unfold put8
  generalize World.setCell _ _ (.float .f64 0) = w8 at hz8 hk8 hc8 hf8 ⊢
  refine lx_one 5 (by kernel_rfl) (stepT_store (w' := w8.setCell ⟨q, 0, none⟩ (.int .i64 n)) rfl rfl rfl ?r5 (fun _ => trivial) ?_)
  case r5 => first | (go_simp; rfl) | go_simp
  refine lx_nil (by kernel_rfl) ?_
  have hk9 : Keep (fun k => k = q) w8 (w8.setCell ⟨q, 0, none⟩ (.int .i64 n)) := (Keep.refl (fun k => k = q) w8).setCell (p := ⟨q, 0, none⟩) (show (fun k => k = q) q from rfl) _
  have hz9 := hz8.keep hk9 (fun e => hbq e)
  have hc9 : (w8.setCell ⟨q, 0, none⟩ (.int .i64 n)).cell? ⟨q, 0, none⟩ = some (.int .i64 n) := World.cell?_setCell_same _ _ _ hc8
  have hkk : Keep (fun k => k = b ∨ k = q) w (w8.setCell ⟨q, 0, none⟩ (.int .i64 n)) := ((hW0.mono (fun _ h => h.elim)).trans (hk8.mono (fun _ e => Or.inl e))).trans (hk9.mono (fun _ e => Or.inr e))
  generalize w8.setCell ⟨q, 0, none⟩ (.int .i64 n) = w9 at hz9 hc9 hkk ⊢
  go_wp2
  simp [bodyPostS, results, Tryd.results37]
  exact ⟨hz9, hc9, hkk⟩

end Go.Proofs.YtomkcmkbehcjnaaDoor
