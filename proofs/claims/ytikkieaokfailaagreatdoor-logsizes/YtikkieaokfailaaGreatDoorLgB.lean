/- seglog's steps: write, sync, remove. -/
import Derived.Test.YtikkieaokfailaaGreatDoorLgA
namespace Go.Proofs.YtikkieaokfailaaGreatDoor
open Go.RowKit Go.Joins

theorem dp_drew {W w' : World} {F : Nat → Prop} {d : Nat} {k : Dk} (h : Dp W.drew F d k w') : Dp W F d k w' := h.from ((Below.refl _ _).drew)

set_option maxHeartbeats 1000000 in
theorem ssyncC (bl b1 lb d most : Nat) (F : Nat → Prop) (v : Value) (c : Ch) (dn : Bool) (k : Dk) (s : Nm) (hst : k.steps < 1000000) (hfl : k.fs.length < 1000000) (W : World) (h : LD W F lb d most v c dn k) (hbl : W.heap[bl]? = some (.cells #[.pointer (some ⟨lb, 0, none⟩)] 48 (0, 0))) (hb1 : W.heap[b1]? = some (.cells #[.string s] 9 (0, 0))) (nbl : ¬ F bl) (nb1 : ¬ F b1) :
    Calls Tryz.prog 141 #[.pointer (some ⟨bl, 0, none⟩), .pointer (some ⟨b1, 0, none⟩)] W fun e w' => e = .returned (.int .i64 (syncK k s).1) ∧ Dp W F d (syncK k s).2 w' := by
  have HS0 : W.drew.cell? ⟨bl, 0, none⟩ = some (.pointer (some ⟨lb, 0, none⟩)) ∧ W.drew.cell? ⟨b1, 0, none⟩ = some (.string s) ∧ W.drew.cell? ⟨lb, 0, none⟩ = some (.pointer (some ⟨d, 0, none⟩)) := ⟨box_cell hbl, box_cell hb1, h.c0⟩
  have hD := fun w' (hb : Below W.heap.size W w') => sync_any d F k s hst hfl w' (h.D.below hb)
  obtain ⟨P, hP⟩ : ∃ P, syncK k s = P := ⟨_, rfl⟩
  rw [hP] at hD ⊢
  clear hP
  have nlb := h.nf
  go_enter Tryz.func141, Tryz.ntmps141
  go_upto_region 1 with fail
  refine wp_region_lx (fun w' => w'.cell? ⟨bl, 0, none⟩ = some (.pointer (some ⟨lb, 0, none⟩)) ∧ w'.cell? ⟨b1, 0, none⟩ = some (.string s) ∧ w'.cell? ⟨lb, 0, none⟩ = some (.pointer (some ⟨d, 0, none⟩))) [] 7 (by kernel_rfl) (by kernel_rfl) ?_
  refine lx_rd 0 (.pointer (some ⟨lb, 0, none⟩)) (by kernel_rfl) (fun _ _ d _ _ h => by cases d <;> exact h) (by kernel_rfl) HS0 rfl rfl rfl (fun w' hS => ?ha0) ?_
  case ha0 => have q := hS.1; first | (go_simp; rfl) | go_simp
  simp only [List.setIfInBounds_toArray, List.set_cons_zero, List.set_cons_succ]
  refine lx_rd 1 (.pointer (some ⟨lb, 0, none⟩)) (by kernel_rfl) (fun _ _ d _ _ h => by cases d <;> exact h) (by kernel_rfl) HS0 rfl rfl rfl (fun w' hS => ?ha1) ?_
  case ha1 => first | (go_simp; rfl) | go_simp
  simp only [List.setIfInBounds_toArray, List.set_cons_zero, List.set_cons_succ]
  refine lx_rd 2 (.pointer (some ⟨lb, 0, none⟩)) (by kernel_rfl) (fun _ _ d _ _ h => by cases d <;> exact h) (by kernel_rfl) HS0 rfl rfl rfl (fun w' hS => ?ha2) ?_
  case ha2 => first | (go_simp; rfl) | go_simp
  simp only [List.setIfInBounds_toArray, List.set_cons_zero, List.set_cons_succ]
  refine lx_rd 3 (.pointer (some ⟨d, 0, none⟩)) (by kernel_rfl) (fun _ _ d _ _ h => by cases d <;> exact h) (by kernel_rfl) HS0 rfl rfl rfl (fun w' hS => ?ha3) ?_
  case ha3 => have q := hS.2.2; first | (go_simp; rfl) | go_simp
  simp only [List.setIfInBounds_toArray, List.set_cons_zero, List.set_cons_succ]
  refine lx_rd 4 (.string s) (by kernel_rfl) (fun _ _ d _ _ h => by cases d <;> exact h) (by kernel_rfl) HS0 rfl rfl rfl (fun w' hS => ?ha4) ?_
  case ha4 => have q := hS.2.1; first | (go_simp; rfl) | go_simp
  simp only [List.setIfInBounds_toArray, List.set_cons_zero, List.set_cons_succ]
  refine lx_one 5 (by kernel_rfl) (stepT_call 142 ?a9 rfl rfl rfl ?r9 ?_)
  case r9 => first | (go_simp; rfl) | go_simp
  refine (hD W.drew ((Below.refl _ _).drew)).mono ?_
  rintro e w1 ⟨rfl, hdp⟩
  have HS1 : w1.cell? ⟨bl, 0, none⟩ = some (.pointer (some ⟨lb, 0, none⟩)) ∧ w1.cell? ⟨b1, 0, none⟩ = some (.string s) ∧ w1.cell? ⟨lb, 0, none⟩ = some (.pointer (some ⟨d, 0, none⟩)) := by
    obtain ⟨_, _, hk, _⟩ := hdp
    exact ⟨hk.cell (p := ⟨bl, 0, none⟩) (HS0.1) nbl, hk.cell (p := ⟨b1, 0, none⟩) (HS0.2.1) nb1, hk.cell (p := ⟨lb, 0, none⟩) (HS0.2.2) nlb⟩
  refine ⟨_, rfl, fun _ => HS1, ?_⟩
  simp only [List.setIfInBounds_toArray, List.set_cons_zero, List.set_cons_succ]
  refine lx_rd 6 ?vb6 (by kernel_rfl) (fun _ _ d _ _ h => by cases d <;> exact h) (by kernel_rfl) HS1 rfl rfl rfl (fun w' hS => ?hb6) ?_
  case hb6 => first | (go_simp; rfl) | go_simp
  simp only [List.setIfInBounds_toArray, List.set_cons_zero, List.set_cons_succ]
  refine lx_nil (by kernel_rfl) ?_
  go_wp2
  go_ret
  exact ⟨rfl, dp_drew hdp⟩

set_option maxHeartbeats 1000000 in
theorem ssync_any (lb d most : Nat) (F : Nat → Prop) (v : Value) (c : Ch) (dn : Bool) (k : Dk) (s : Nm) (hst : k.steps < 1000000) (hfl : k.fs.length < 1000000) (w : World) (h : LD w F lb d most v c dn k) :
    Calls Tryz.prog 104 #[.pointer (some ⟨lb, 0, none⟩), .string s] w fun e w' => Gs (stp dn k (syncK k s)).1 e ∧ Lp w F lb d most v c (stp dn k (syncK k s)).2.1 (stp dn k (syncK k s)).2.2 w' := by
  have hmf : ∀ (fn : Fn) (first cap : Array Value) (w : World), (Instr.makeFunc fn first cap).run Tryz.prog w = .ok (.func fn first cap) w := fun _ _ _ _ => rfl
  obtain ⟨W, hW⟩ : ∃ W, (w.alloc (.cells #[.pointer (some ⟨lb, 0, none⟩)] 48)).alloc (.cells #[.string s] 9) = W := ⟨_, rfl⟩
  have hB : Below w.heap.size w W := by rw [← hW]; exact ((Below.refl _ _).alloc (Nat.le_refl _) _).alloc (by simp) _
  have q0 : W.heap[w.heap.size]? = some (.cells #[.pointer (some ⟨lb, 0, none⟩)] 48 (0, 0)) := by rw [← hW]; exact (by simpa using alloc2_at (w) (.cells #[.pointer (some ⟨lb, 0, none⟩)] 48) (.cells #[.string s] 9))
  have q1 : W.heap[w.heap.size + 1]? = some (.cells #[.string s] 9 (0, 0)) := by rw [← hW]; exact (by simpa using alloc_at (w.alloc (.cells #[.pointer (some ⟨lb, 0, none⟩)] 48)) (.cells #[.string s] 9))
  have hLW := h.below hB
  have hlt := h.D.lt
  have hA : Calls Tryz.prog 117 #[.pointer (some ⟨lb, 0, none⟩), .func (.func 141) #[] #[.pointer (some ⟨w.heap.size, 0, none⟩), .pointer (some ⟨w.heap.size + 1, 0, none⟩)]] W fun e w' => Gs (stp dn k (syncK k s)).1 e ∧ Lp W F lb d most v c (stp dn k (syncK k s)).2.1 (stp dn k (syncK k s)).2.2 w' := by
    refine step_any _ _ _ W F lb d most v c dn k hLW (enters_of Tryz.func141 (by kernel_rfl) rfl) ?_
    exact ssyncC (w.heap.size) (w.heap.size + 1) lb d most F v c dn k s hst hfl W hLW q0 q1 (fun hf => by have := hlt _ hf; omega) (fun hf => by have := hlt _ hf; omega)
  have c0 := box_cell q0
  clear hLW
  obtain ⟨P, hP⟩ : ∃ P, stp dn k (syncK k s) = P := ⟨_, rfl⟩
  rw [hP] at hA ⊢
  clear hP
  obtain ⟨en, P2⟩ := P
  dsimp only at hA ⊢
  by_cases h0 : en = 0
  · subst h0
    have hA' := hA.mono (fun e w' h => And.intro (h.1.elim (fun k => k.2) (fun k => absurd rfl k.1)) h.2 : ∀ e w', _ → (e = .returned (.tuple #[]) ∧ _))
    clear hA
    go_enter Tryz.func104, Tryz.ntmps104
    go_upto_region 1 with fail
    clear hW
    go_wp2_with (first
      | (go_at_call 117; refine hA'.mono ?_; rintro e w1 ⟨rfl, hp⟩))
    go_end0
    exact ⟨Or.inl ⟨rfl, rfl⟩, hp.from hB⟩
  · have hA' := hA.mono (fun e w' h => And.intro (h.1.elim (fun k => absurd k.1 h0) (fun k => k.2)) h.2 : ∀ e w', _ → (e = .panicked (gaveS en) ∧ _))
    clear hA
    go_enter Tryz.func104, Tryz.ntmps104
    go_upto_region 1 with fail
    clear hW
    go_wp2_with (first
      | (go_at_call 117; refine hA'.mono ?_; rintro e w1 ⟨rfl, hp⟩))
    exact ⟨rfl, gs_no h0 rfl, hp.from hB⟩

set_option maxHeartbeats 1000000 in
theorem sremoveC (bl b1 lb d most : Nat) (F : Nat → Prop) (v : Value) (c : Ch) (dn : Bool) (k : Dk) (s : Nm) (hst : k.steps < 1000000) (W : World) (h : LD W F lb d most v c dn k) (hbl : W.heap[bl]? = some (.cells #[.pointer (some ⟨lb, 0, none⟩)] 48 (0, 0))) (hb1 : W.heap[b1]? = some (.cells #[.string s] 9 (0, 0))) (nbl : ¬ F bl) (nb1 : ¬ F b1) :
    Calls Tryz.prog 152 #[.pointer (some ⟨bl, 0, none⟩), .pointer (some ⟨b1, 0, none⟩)] W fun e w' => e = .returned (.int .i64 (removeK k s).1) ∧ Dp W F d (removeK k s).2 w' := by
  have HS0 : W.drew.cell? ⟨bl, 0, none⟩ = some (.pointer (some ⟨lb, 0, none⟩)) ∧ W.drew.cell? ⟨b1, 0, none⟩ = some (.string s) ∧ W.drew.cell? ⟨lb, 0, none⟩ = some (.pointer (some ⟨d, 0, none⟩)) := ⟨box_cell hbl, box_cell hb1, h.c0⟩
  have hD := fun w' (hb : Below W.heap.size W w') => remove_any d F k s hst w' (h.D.below hb)
  obtain ⟨P, hP⟩ : ∃ P, removeK k s = P := ⟨_, rfl⟩
  rw [hP] at hD ⊢
  clear hP
  have nlb := h.nf
  go_enter Tryz.func152, Tryz.ntmps152
  go_upto_region 1 with fail
  refine wp_region_lx (fun w' => w'.cell? ⟨bl, 0, none⟩ = some (.pointer (some ⟨lb, 0, none⟩)) ∧ w'.cell? ⟨b1, 0, none⟩ = some (.string s) ∧ w'.cell? ⟨lb, 0, none⟩ = some (.pointer (some ⟨d, 0, none⟩))) [] 7 (by kernel_rfl) (by kernel_rfl) ?_
  refine lx_rd 0 (.pointer (some ⟨lb, 0, none⟩)) (by kernel_rfl) (fun _ _ d _ _ h => by cases d <;> exact h) (by kernel_rfl) HS0 rfl rfl rfl (fun w' hS => ?ha0) ?_
  case ha0 => have q := hS.1; first | (go_simp; rfl) | go_simp
  simp only [List.setIfInBounds_toArray, List.set_cons_zero, List.set_cons_succ]
  refine lx_rd 1 (.pointer (some ⟨lb, 0, none⟩)) (by kernel_rfl) (fun _ _ d _ _ h => by cases d <;> exact h) (by kernel_rfl) HS0 rfl rfl rfl (fun w' hS => ?ha1) ?_
  case ha1 => first | (go_simp; rfl) | go_simp
  simp only [List.setIfInBounds_toArray, List.set_cons_zero, List.set_cons_succ]
  refine lx_rd 2 (.pointer (some ⟨lb, 0, none⟩)) (by kernel_rfl) (fun _ _ d _ _ h => by cases d <;> exact h) (by kernel_rfl) HS0 rfl rfl rfl (fun w' hS => ?ha2) ?_
  case ha2 => first | (go_simp; rfl) | go_simp
  simp only [List.setIfInBounds_toArray, List.set_cons_zero, List.set_cons_succ]
  refine lx_rd 3 (.pointer (some ⟨d, 0, none⟩)) (by kernel_rfl) (fun _ _ d _ _ h => by cases d <;> exact h) (by kernel_rfl) HS0 rfl rfl rfl (fun w' hS => ?ha3) ?_
  case ha3 => have q := hS.2.2; first | (go_simp; rfl) | go_simp
  simp only [List.setIfInBounds_toArray, List.set_cons_zero, List.set_cons_succ]
  refine lx_rd 4 (.string s) (by kernel_rfl) (fun _ _ d _ _ h => by cases d <;> exact h) (by kernel_rfl) HS0 rfl rfl rfl (fun w' hS => ?ha4) ?_
  case ha4 => have q := hS.2.1; first | (go_simp; rfl) | go_simp
  simp only [List.setIfInBounds_toArray, List.set_cons_zero, List.set_cons_succ]
  refine lx_one 5 (by kernel_rfl) (stepT_call 153 ?a9 rfl rfl rfl ?r9 ?_)
  case r9 => first | (go_simp; rfl) | go_simp
  refine (hD W.drew ((Below.refl _ _).drew)).mono ?_
  rintro e w1 ⟨rfl, hdp⟩
  have HS1 : w1.cell? ⟨bl, 0, none⟩ = some (.pointer (some ⟨lb, 0, none⟩)) ∧ w1.cell? ⟨b1, 0, none⟩ = some (.string s) ∧ w1.cell? ⟨lb, 0, none⟩ = some (.pointer (some ⟨d, 0, none⟩)) := by
    obtain ⟨_, _, hk, _⟩ := hdp
    exact ⟨hk.cell (p := ⟨bl, 0, none⟩) (HS0.1) nbl, hk.cell (p := ⟨b1, 0, none⟩) (HS0.2.1) nb1, hk.cell (p := ⟨lb, 0, none⟩) (HS0.2.2) nlb⟩
  refine ⟨_, rfl, fun _ => HS1, ?_⟩
  simp only [List.setIfInBounds_toArray, List.set_cons_zero, List.set_cons_succ]
  refine lx_rd 6 ?vb6 (by kernel_rfl) (fun _ _ d _ _ h => by cases d <;> exact h) (by kernel_rfl) HS1 rfl rfl rfl (fun w' hS => ?hb6) ?_
  case hb6 => first | (go_simp; rfl) | go_simp
  simp only [List.setIfInBounds_toArray, List.set_cons_zero, List.set_cons_succ]
  refine lx_nil (by kernel_rfl) ?_
  go_wp2
  go_ret
  exact ⟨rfl, dp_drew hdp⟩

set_option maxHeartbeats 1000000 in
theorem sremove_any (lb d most : Nat) (F : Nat → Prop) (v : Value) (c : Ch) (dn : Bool) (k : Dk) (s : Nm) (hst : k.steps < 1000000) (w : World) (h : LD w F lb d most v c dn k) :
    Calls Tryz.prog 134 #[.pointer (some ⟨lb, 0, none⟩), .string s] w fun e w' => Gs (stp dn k (removeK k s)).1 e ∧ Lp w F lb d most v c (stp dn k (removeK k s)).2.1 (stp dn k (removeK k s)).2.2 w' := by
  have hmf : ∀ (fn : Fn) (first cap : Array Value) (w : World), (Instr.makeFunc fn first cap).run Tryz.prog w = .ok (.func fn first cap) w := fun _ _ _ _ => rfl
  obtain ⟨W, hW⟩ : ∃ W, (w.alloc (.cells #[.pointer (some ⟨lb, 0, none⟩)] 48)).alloc (.cells #[.string s] 9) = W := ⟨_, rfl⟩
  have hB : Below w.heap.size w W := by rw [← hW]; exact ((Below.refl _ _).alloc (Nat.le_refl _) _).alloc (by simp) _
  have q0 : W.heap[w.heap.size]? = some (.cells #[.pointer (some ⟨lb, 0, none⟩)] 48 (0, 0)) := by rw [← hW]; exact (by simpa using alloc2_at (w) (.cells #[.pointer (some ⟨lb, 0, none⟩)] 48) (.cells #[.string s] 9))
  have q1 : W.heap[w.heap.size + 1]? = some (.cells #[.string s] 9 (0, 0)) := by rw [← hW]; exact (by simpa using alloc_at (w.alloc (.cells #[.pointer (some ⟨lb, 0, none⟩)] 48)) (.cells #[.string s] 9))
  have hLW := h.below hB
  have hlt := h.D.lt
  have hA : Calls Tryz.prog 117 #[.pointer (some ⟨lb, 0, none⟩), .func (.func 152) #[] #[.pointer (some ⟨w.heap.size, 0, none⟩), .pointer (some ⟨w.heap.size + 1, 0, none⟩)]] W fun e w' => Gs (stp dn k (removeK k s)).1 e ∧ Lp W F lb d most v c (stp dn k (removeK k s)).2.1 (stp dn k (removeK k s)).2.2 w' := by
    refine step_any _ _ _ W F lb d most v c dn k hLW (enters_of Tryz.func152 (by kernel_rfl) rfl) ?_
    exact sremoveC (w.heap.size) (w.heap.size + 1) lb d most F v c dn k s hst W hLW q0 q1 (fun hf => by have := hlt _ hf; omega) (fun hf => by have := hlt _ hf; omega)
  have c0 := box_cell q0
  clear hLW
  obtain ⟨P, hP⟩ : ∃ P, stp dn k (removeK k s) = P := ⟨_, rfl⟩
  rw [hP] at hA ⊢
  clear hP
  obtain ⟨en, P2⟩ := P
  dsimp only at hA ⊢
  by_cases h0 : en = 0
  · subst h0
    have hA' := hA.mono (fun e w' h => And.intro (h.1.elim (fun k => k.2) (fun k => absurd rfl k.1)) h.2 : ∀ e w', _ → (e = .returned (.tuple #[]) ∧ _))
    clear hA
    go_enter Tryz.func134, Tryz.ntmps134
    go_upto_region 1 with fail
    clear hW
    go_wp2_with (first
      | (go_at_call 117; refine hA'.mono ?_; rintro e w1 ⟨rfl, hp⟩))
    go_end0
    exact ⟨Or.inl ⟨rfl, rfl⟩, hp.from hB⟩
  · have hA' := hA.mono (fun e w' h => And.intro (h.1.elim (fun k => absurd k.1 h0) (fun k => k.2)) h.2 : ∀ e w', _ → (e = .panicked (gaveS en) ∧ _))
    clear hA
    go_enter Tryz.func134, Tryz.ntmps134
    go_upto_region 1 with fail
    clear hW
    go_wp2_with (first
      | (go_at_call 117; refine hA'.mono ?_; rintro e w1 ⟨rfl, hp⟩))
    exact ⟨rfl, gs_no h0 rfl, hp.from hB⟩

set_option maxHeartbeats 1000000 in
theorem swriteC (bl b1 b2 lb d most : Nat) (F : Nat → Prop) (v : Value) (c : Ch) (dn : Bool) (k : Dk) (s : Nm) (a : Option Addr) (m e : Nat) (ys : List Int) (hst : k.steps < 1000000) (hfl : k.fs.length < 1000000) (hm : m ≤ 1000000000) (W : World) (h : LD W F lb d most v c dn k) (hbl : W.heap[bl]? = some (.cells #[.pointer (some ⟨lb, 0, none⟩)] 48 (0, 0))) (hb1 : W.heap[b1]? = some (.cells #[.string s] 9 (0, 0))) (hb2 : W.heap[b2]? = some (.cells #[.slice a m e] 29 (0, 0))) (nbl : ¬ F bl) (nb1 : ¬ F b1) (nb2 : ¬ F b2) (hR : Rd W a m e ys) :
    Calls Tryz.prog 138 #[.pointer (some ⟨bl, 0, none⟩), .pointer (some ⟨b1, 0, none⟩), .pointer (some ⟨b2, 0, none⟩)] W fun e w' => e = .returned (.int .i64 (appK k s ys).1) ∧ Dp W F d (appK k s ys).2 w' := by
  have HS0 : W.drew.cell? ⟨bl, 0, none⟩ = some (.pointer (some ⟨lb, 0, none⟩)) ∧ W.drew.cell? ⟨b1, 0, none⟩ = some (.string s) ∧ W.drew.cell? ⟨b2, 0, none⟩ = some (.slice a m e) ∧ W.drew.cell? ⟨lb, 0, none⟩ = some (.pointer (some ⟨d, 0, none⟩)) := ⟨box_cell hbl, box_cell hb1, box_cell hb2, h.c0⟩
  have hD := fun w' (hb : Below W.heap.size W w') => append_any d F k s a m e ys hst hfl hm w' (h.D.below hb) (hR.carry (Nat.le_refl _) hb)
  obtain ⟨P, hP⟩ : ∃ P, appK k s ys = P := ⟨_, rfl⟩
  rw [hP] at hD ⊢
  clear hP
  have nlb := h.nf
  go_enter Tryz.func138, Tryz.ntmps138
  go_upto_region 1 with fail
  refine wp_region_lx (fun w' => w'.cell? ⟨bl, 0, none⟩ = some (.pointer (some ⟨lb, 0, none⟩)) ∧ w'.cell? ⟨b1, 0, none⟩ = some (.string s) ∧ w'.cell? ⟨b2, 0, none⟩ = some (.slice a m e) ∧ w'.cell? ⟨lb, 0, none⟩ = some (.pointer (some ⟨d, 0, none⟩))) [] 8 (by kernel_rfl) (by kernel_rfl) ?_
  refine lx_rd 0 (.pointer (some ⟨lb, 0, none⟩)) (by kernel_rfl) (fun _ _ d _ _ h => by cases d <;> exact h) (by kernel_rfl) HS0 rfl rfl rfl (fun w' hS => ?ha0) ?_
  case ha0 => have q := hS.1; first | (go_simp; rfl) | go_simp
  simp only [List.setIfInBounds_toArray, List.set_cons_zero, List.set_cons_succ]
  refine lx_rd 1 (.pointer (some ⟨lb, 0, none⟩)) (by kernel_rfl) (fun _ _ d _ _ h => by cases d <;> exact h) (by kernel_rfl) HS0 rfl rfl rfl (fun w' hS => ?ha1) ?_
  case ha1 => first | (go_simp; rfl) | go_simp
  simp only [List.setIfInBounds_toArray, List.set_cons_zero, List.set_cons_succ]
  refine lx_rd 2 (.pointer (some ⟨lb, 0, none⟩)) (by kernel_rfl) (fun _ _ d _ _ h => by cases d <;> exact h) (by kernel_rfl) HS0 rfl rfl rfl (fun w' hS => ?ha2) ?_
  case ha2 => first | (go_simp; rfl) | go_simp
  simp only [List.setIfInBounds_toArray, List.set_cons_zero, List.set_cons_succ]
  refine lx_rd 3 (.pointer (some ⟨d, 0, none⟩)) (by kernel_rfl) (fun _ _ d _ _ h => by cases d <;> exact h) (by kernel_rfl) HS0 rfl rfl rfl (fun w' hS => ?ha3) ?_
  case ha3 => have q := hS.2.2.2; first | (go_simp; rfl) | go_simp
  simp only [List.setIfInBounds_toArray, List.set_cons_zero, List.set_cons_succ]
  refine lx_rd 4 (.string s) (by kernel_rfl) (fun _ _ d _ _ h => by cases d <;> exact h) (by kernel_rfl) HS0 rfl rfl rfl (fun w' hS => ?ha4) ?_
  case ha4 => have q := hS.2.1; first | (go_simp; rfl) | go_simp
  simp only [List.setIfInBounds_toArray, List.set_cons_zero, List.set_cons_succ]
  refine lx_rd 5 (.slice a m e) (by kernel_rfl) (fun _ _ d _ _ h => by cases d <;> exact h) (by kernel_rfl) HS0 rfl rfl rfl (fun w' hS => ?ha5) ?_
  case ha5 => have q := hS.2.2.1; first | (go_simp; rfl) | go_simp
  simp only [List.setIfInBounds_toArray, List.set_cons_zero, List.set_cons_succ]
  refine lx_one 6 (by kernel_rfl) (stepT_call 16 ?a9 rfl rfl rfl ?r9 ?_)
  case r9 => first | (go_simp; rfl) | go_simp
  refine (hD W.drew ((Below.refl _ _).drew)).mono ?_
  rintro e w1 ⟨rfl, hdp⟩
  have HS1 : w1.cell? ⟨bl, 0, none⟩ = some (.pointer (some ⟨lb, 0, none⟩)) ∧ w1.cell? ⟨b1, 0, none⟩ = some (.string s) ∧ w1.cell? ⟨b2, 0, none⟩ = some (.slice a m e) ∧ w1.cell? ⟨lb, 0, none⟩ = some (.pointer (some ⟨d, 0, none⟩)) := by
    obtain ⟨_, _, hk, _⟩ := hdp
    exact ⟨hk.cell (p := ⟨bl, 0, none⟩) (HS0.1) nbl, hk.cell (p := ⟨b1, 0, none⟩) (HS0.2.1) nb1, hk.cell (p := ⟨b2, 0, none⟩) (HS0.2.2.1) nb2, hk.cell (p := ⟨lb, 0, none⟩) (HS0.2.2.2) nlb⟩
  refine ⟨_, rfl, fun _ => HS1, ?_⟩
  simp only [List.setIfInBounds_toArray, List.set_cons_zero, List.set_cons_succ]
  refine lx_rd 7 ?vb7 (by kernel_rfl) (fun _ _ d _ _ h => by cases d <;> exact h) (by kernel_rfl) HS1 rfl rfl rfl (fun w' hS => ?hb7) ?_
  case hb7 => first | (go_simp; rfl) | go_simp
  simp only [List.setIfInBounds_toArray, List.set_cons_zero, List.set_cons_succ]
  refine lx_nil (by kernel_rfl) ?_
  go_wp2
  go_ret
  exact ⟨rfl, dp_drew hdp⟩

set_option maxHeartbeats 1000000 in
theorem swrite_any (lb d most : Nat) (F : Nat → Prop) (v : Value) (c : Ch) (dn : Bool) (k : Dk) (s : Nm) (a : Option Addr) (m e : Nat) (ys : List Int) (hst : k.steps < 1000000) (hfl : k.fs.length < 1000000) (hm : m ≤ 1000000000) (w : World) (h : LD w F lb d most v c dn k) (hR : Rd w a m e ys) :
    Calls Tryz.prog 102 #[.pointer (some ⟨lb, 0, none⟩), .string s, .slice a m e] w fun e w' => Gs (stp dn k (appK k s ys)).1 e ∧ Lp w F lb d most v c (stp dn k (appK k s ys)).2.1 (stp dn k (appK k s ys)).2.2 w' := by
  have hmf : ∀ (fn : Fn) (first cap : Array Value) (w : World), (Instr.makeFunc fn first cap).run Tryz.prog w = .ok (.func fn first cap) w := fun _ _ _ _ => rfl
  obtain ⟨W, hW⟩ : ∃ W, ((w.alloc (.cells #[.pointer (some ⟨lb, 0, none⟩)] 48)).alloc (.cells #[.string s] 9)).alloc (.cells #[.slice a m e] 29) = W := ⟨_, rfl⟩
  have hB : Below w.heap.size w W := by rw [← hW]; exact (((Below.refl _ _).alloc (Nat.le_refl _) _).alloc (by simp) _).alloc (by simp; omega) _
  have q0 : W.heap[w.heap.size]? = some (.cells #[.pointer (some ⟨lb, 0, none⟩)] 48 (0, 0)) := by rw [← hW]; exact alloc3_at w _ _ _
  have q1 : W.heap[w.heap.size + 1]? = some (.cells #[.string s] 9 (0, 0)) := by rw [← hW]; exact (by simpa using alloc2_at (w.alloc (.cells #[.pointer (some ⟨lb, 0, none⟩)] 48)) (.cells #[.string s] 9) (.cells #[.slice a m e] 29))
  have q2 : W.heap[w.heap.size + 1 + 1]? = some (.cells #[.slice a m e] 29 (0, 0)) := by rw [← hW]; exact (by simpa using alloc_at ((w.alloc (.cells #[.pointer (some ⟨lb, 0, none⟩)] 48)).alloc (.cells #[.string s] 9)) (.cells #[.slice a m e] 29))
  have hLW := h.below hB
  have hRW := hR.carry (Nat.le_refl _) hB
  have hlt := h.D.lt
  have hA : Calls Tryz.prog 117 #[.pointer (some ⟨lb, 0, none⟩), .func (.func 138) #[] #[.pointer (some ⟨w.heap.size, 0, none⟩), .pointer (some ⟨w.heap.size + 1, 0, none⟩), .pointer (some ⟨w.heap.size + 1 + 1, 0, none⟩)]] W fun e w' => Gs (stp dn k (appK k s ys)).1 e ∧ Lp W F lb d most v c (stp dn k (appK k s ys)).2.1 (stp dn k (appK k s ys)).2.2 w' := by
    refine step_any _ _ _ W F lb d most v c dn k hLW (enters_of Tryz.func138 (by kernel_rfl) rfl) ?_
    exact swriteC (w.heap.size) (w.heap.size + 1) (w.heap.size + 1 + 1) lb d most F v c dn k s a m e ys hst hfl hm W hLW q0 q1 q2 (fun hf => by have := hlt _ hf; omega) (fun hf => by have := hlt _ hf; omega) (fun hf => by have := hlt _ hf; omega) hRW
  have c0 := box_cell q0
  clear hLW hRW
  obtain ⟨P, hP⟩ : ∃ P, stp dn k (appK k s ys) = P := ⟨_, rfl⟩
  rw [hP] at hA ⊢
  clear hP
  obtain ⟨en, P2⟩ := P
  dsimp only at hA ⊢
  by_cases h0 : en = 0
  · subst h0
    have hA' := hA.mono (fun e w' h => And.intro (h.1.elim (fun k => k.2) (fun k => absurd rfl k.1)) h.2 : ∀ e w', _ → (e = .returned (.tuple #[]) ∧ _))
    clear hA
    go_enter Tryz.func102, Tryz.ntmps102
    go_upto_region 1 with fail
    clear hW
    go_wp2_with (first
      | (go_at_call 117; refine hA'.mono ?_; rintro e w1 ⟨rfl, hp⟩))
    go_end0
    exact ⟨Or.inl ⟨rfl, rfl⟩, hp.from hB⟩
  · have hA' := hA.mono (fun e w' h => And.intro (h.1.elim (fun k => absurd k.1 h0) (fun k => k.2)) h.2 : ∀ e w', _ → (e = .panicked (gaveS en) ∧ _))
    clear hA
    go_enter Tryz.func102, Tryz.ntmps102
    go_upto_region 1 with fail
    clear hW
    go_wp2_with (first
      | (go_at_call 117; refine hA'.mono ?_; rintro e w1 ⟨rfl, hp⟩))
    exact ⟨rfl, gs_no h0 rfl, hp.from hB⟩

end Go.Proofs.YtikkieaokfailaaGreatDoor
