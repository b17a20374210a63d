/- Texts of one seat, one behind the other: LgB, ShelfL, LgC, LzL, AnyO, AnyP, CcP, CcA. -/
import Derived.Test.YtikkieaokfailaaGreatDoorM3
import Derived.Shelf.SlGeneric
import Derived.Shelf.Strconv.Itoa3
import Derived.Shelf.Strings.Prefix
import Derived.Shelf.Bytes.SlEqualAll
import Derived.Shelf.SlicesE.IndexFunc
import Derived.Shelf.Spec.SearchS
import Derived.Ground.NamesProg
import Derived.Ground.Names2Prog
import Derived.Ground.SlgfProg
import Derived.Test.YtikkieaokfailaaGreatDoorProg
import Derived.Lib.ItoaMem
import Derived.Test.YtikkieaokfailaaGreatDoorRows
import Derived.ProofKit
import Derived.OpenShut
import Derived.ChangeOld
import Derived.Deep.DeepHandedRow
import Derived.Lib.LaidTab
import Derived.Lib.SmallJoins
import Derived.Shelf.Vars
import Derived.Test.YtikkieaokfailaaGreatDoorM2
import Derived.Test.YtikkieaokfailaaGreatDoorM1
import Derived.Laws.OwnMore
/- seglog's steps: write, sync, remove. -/
namespace Go.Proofs.YtikkieaokfailaaGreatDoor
open Go.RowKit Go.Joins

theorem dp_drew {W w' : World} {F : Nat → Prop} {d : Nat} {k : Dk} (h : Dp W.drew F d k w') : Dp W F d k w' := h.from ((Below.refl _ _).drew)

set_option maxHeartbeats 1000000 in
theorem ssyncC (bl b1 lb d most : Nat) (F : Nat → Prop) (v : Value) (c : Ch) (dn : Bool) (k : Dk) (s : Nm) (hst : k.steps < 1000000) (hfl : k.fs.length < 1000000) (W : World) (h : LD W F lb d most v c dn k) (hbl : W.heap[bl]? = some (.cells #[.pointer (some ⟨lb, 0, none⟩)] 48 (0, 0))) (hb1 : W.heap[b1]? = some (.cells #[.string s] 9 (0, 0))) (nbl : ¬ F bl) (nb1 : ¬ F b1) :
    Calls Tryz.prog 141 #[.pointer (some ⟨bl, 0, none⟩), .pointer (some ⟨b1, 0, none⟩)] W fun e w' => e = .returned (.int .i64 (syncK k s).1) ∧ Dp W F d (syncK k s).2 w' := by
  have HS0 : W.drew.cell? ⟨bl, 0, none⟩ = some (.pointer (some ⟨lb, 0, none⟩)) ∧ W.drew.cell? ⟨b1, 0, none⟩ = some (.string s) ∧ W.drew.cell? ⟨lb, 0, none⟩ = some (.pointer (some ⟨d, 0, none⟩)) := ⟨box_cell hbl, box_cell hb1, h.c0⟩
  have hD := fun w' (hb : Below W.heap.size W w') => sync_any d F k s hst hfl w' (h.D.below hb)
  obtain ⟨P, hP⟩ : ∃ P, syncK k s = P := ⟨_, rfl⟩
  rw [hP] at hD ⊢
  clear hP
  have nlb := h.nf
  go_enter Tryz.func141, Tryz.ntmps141
  go_upto_region 1 with fail
  refine wp_region_lx (fun w' => w'.cell? ⟨bl, 0, none⟩ = some (.pointer (some ⟨lb, 0, none⟩)) ∧ w'.cell? ⟨b1, 0, none⟩ = some (.string s) ∧ w'.cell? ⟨lb, 0, none⟩ = some (.pointer (some ⟨d, 0, none⟩))) [] 7 (by kernel_rfl) (by kernel_rfl) ?_
  refine lx_rd 0 (.pointer (some ⟨lb, 0, none⟩)) (by kernel_rfl) (fun _ _ d _ _ h => by cases d <;> exact h) (by kernel_rfl) HS0 rfl rfl rfl (fun w' hS => ?ha0) ?_
  case ha0 => have q := hS.1; first | (go_simp; rfl) | go_simp
  simp only [List.setIfInBounds_toArray, List.set_cons_zero, List.set_cons_succ]
  refine lx_rd 1 (.pointer (some ⟨lb, 0, none⟩)) (by kernel_rfl) (fun _ _ d _ _ h => by cases d <;> exact h) (by kernel_rfl) HS0 rfl rfl rfl (fun w' hS => ?ha1) ?_
  case ha1 => first | (go_simp; rfl) | go_simp
  simp only [List.setIfInBounds_toArray, List.set_cons_zero, List.set_cons_succ]
  refine lx_rd 2 (.pointer (some ⟨lb, 0, none⟩)) (by kernel_rfl) (fun _ _ d _ _ h => by cases d <;> exact h) (by kernel_rfl) HS0 rfl rfl rfl (fun w' hS => ?ha2) ?_
  case ha2 => first | (go_simp; rfl) | go_simp
  simp only [List.setIfInBounds_toArray, List.set_cons_zero, List.set_cons_succ]
  refine lx_rd 3 (.pointer (some ⟨d, 0, none⟩)) (by kernel_rfl) (fun _ _ d _ _ h => by cases d <;> exact h) (by kernel_rfl) HS0 rfl rfl rfl (fun w' hS => ?ha3) ?_
  case ha3 => have q := hS.2.2; first | (go_simp; rfl) | go_simp
  simp only [List.setIfInBounds_toArray, List.set_cons_zero, List.set_cons_succ]
  refine lx_rd 4 (.string s) (by kernel_rfl) (fun _ _ d _ _ h => by cases d <;> exact h) (by kernel_rfl) HS0 rfl rfl rfl (fun w' hS => ?ha4) ?_
  case ha4 => have q := hS.2.1; first | (go_simp; rfl) | go_simp
  simp only [List.setIfInBounds_toArray, List.set_cons_zero, List.set_cons_succ]
  refine lx_one 5 (by kernel_rfl) (stepT_call 142 ?a9 rfl rfl rfl ?r9 ?_)
  case r9 => first | (go_simp; rfl) | go_simp
  refine (hD W.drew ((Below.refl _ _).drew)).mono ?_
  rintro e w1 ⟨rfl, hdp⟩
  have HS1 : w1.cell? ⟨bl, 0, none⟩ = some (.pointer (some ⟨lb, 0, none⟩)) ∧ w1.cell? ⟨b1, 0, none⟩ = some (.string s) ∧ w1.cell? ⟨lb, 0, none⟩ = some (.pointer (some ⟨d, 0, none⟩)) := by
    obtain ⟨_, _, hk, _⟩ := hdp
    exact ⟨hk.cell (p := ⟨bl, 0, none⟩) (HS0.1) nbl, hk.cell (p := ⟨b1, 0, none⟩) (HS0.2.1) nb1, hk.cell (p := ⟨lb, 0, none⟩) (HS0.2.2) nlb⟩
  refine ⟨_, rfl, fun _ => HS1, ?_⟩
  simp only [List.setIfInBounds_toArray, List.set_cons_zero, List.set_cons_succ]
  refine lx_rd 6 ?vb6 (by kernel_rfl) (fun _ _ d _ _ h => by cases d <;> exact h) (by kernel_rfl) HS1 rfl rfl rfl (fun w' hS => ?hb6) ?_
  case hb6 => first | (go_simp; rfl) | go_simp
  simp only [List.setIfInBounds_toArray, List.set_cons_zero, List.set_cons_succ]
  refine lx_nil (by kernel_rfl) ?_
  go_wp2
  go_ret
  exact ⟨rfl, dp_drew hdp⟩

set_option maxHeartbeats 1000000 in
theorem ssync_any (lb d most : Nat) (F : Nat → Prop) (v : Value) (c : Ch) (dn : Bool) (k : Dk) (s : Nm) (hst : k.steps < 1000000) (hfl : k.fs.length < 1000000) (w : World) (h : LD w F lb d most v c dn k) :
    Calls Tryz.prog 104 #[.pointer (some ⟨lb, 0, none⟩), .string s] w fun e w' => Gs (stp dn k (syncK k s)).1 e ∧ Lp w F lb d most v c (stp dn k (syncK k s)).2.1 (stp dn k (syncK k s)).2.2 w' := by
  have hmf : ∀ (fn : Fn) (first cap : Array Value) (w : World), (Instr.makeFunc fn first cap).run Tryz.prog w = .ok (.func fn first cap) w := fun _ _ _ _ => rfl
  obtain ⟨W, hW⟩ : ∃ W, (w.alloc (.cells #[.pointer (some ⟨lb, 0, none⟩)] 48)).alloc (.cells #[.string s] 9) = W := ⟨_, rfl⟩
  have hB : Below w.heap.size w W := by rw [← hW]; exact ((Below.refl _ _).alloc (Nat.le_refl _) _).alloc (by simp) _
  have q0 : W.heap[w.heap.size]? = some (.cells #[.pointer (some ⟨lb, 0, none⟩)] 48 (0, 0)) := by rw [← hW]; exact (by simpa using alloc2_at (w) (.cells #[.pointer (some ⟨lb, 0, none⟩)] 48) (.cells #[.string s] 9))
  have q1 : W.heap[w.heap.size + 1]? = some (.cells #[.string s] 9 (0, 0)) := by rw [← hW]; exact (by simpa using alloc_at (w.alloc (.cells #[.pointer (some ⟨lb, 0, none⟩)] 48)) (.cells #[.string s] 9))
  have hLW := h.below hB
  have hlt := h.D.lt
  have hA : Calls Tryz.prog 117 #[.pointer (some ⟨lb, 0, none⟩), .func (.func 141) #[] #[.pointer (some ⟨w.heap.size, 0, none⟩), .pointer (some ⟨w.heap.size + 1, 0, none⟩)]] W fun e w' => Gs (stp dn k (syncK k s)).1 e ∧ Lp W F lb d most v c (stp dn k (syncK k s)).2.1 (stp dn k (syncK k s)).2.2 w' := by
    refine step_any _ _ _ W F lb d most v c dn k hLW (enters_of Tryz.func141 (by kernel_rfl) rfl) ?_
    exact ssyncC (w.heap.size) (w.heap.size + 1) lb d most F v c dn k s hst hfl W hLW q0 q1 (fun hf => by have := hlt _ hf; omega) (fun hf => by have := hlt _ hf; omega)
  have c0 := box_cell q0
  clear hLW
  obtain ⟨P, hP⟩ : ∃ P, stp dn k (syncK k s) = P := ⟨_, rfl⟩
  rw [hP] at hA ⊢
  clear hP
  obtain ⟨en, P2⟩ := P
  dsimp only at hA ⊢
  by_cases h0 : en = 0
  · subst h0
    have hA' := hA.mono (fun e w' h => And.intro (h.1.elim (fun k => k.2) (fun k => absurd rfl k.1)) h.2 : ∀ e w', _ → (e = .returned (.tuple #[]) ∧ _))
    clear hA
    go_enter Tryz.func104, Tryz.ntmps104
    go_upto_region 1 with fail
    clear hW
    go_wp2_with (first
      | (go_at_call 117; refine hA'.mono ?_; rintro e w1 ⟨rfl, hp⟩))
    go_end0
    exact ⟨Or.inl ⟨rfl, rfl⟩, hp.from hB⟩
  · have hA' := hA.mono (fun e w' h => And.intro (h.1.elim (fun k => absurd k.1 h0) (fun k => k.2)) h.2 : ∀ e w', _ → (e = .panicked (gaveS en) ∧ _))
    clear hA
    go_enter Tryz.func104, Tryz.ntmps104
    go_upto_region 1 with fail
    clear hW
    go_wp2_with (first
      | (go_at_call 117; refine hA'.mono ?_; rintro e w1 ⟨rfl, hp⟩))
    exact ⟨rfl, gs_no h0 rfl, hp.from hB⟩

set_option maxHeartbeats 1000000 in
theorem sremoveC (bl b1 lb d most : Nat) (F : Nat → Prop) (v : Value) (c : Ch) (dn : Bool) (k : Dk) (s : Nm) (hst : k.steps < 1000000) (W : World) (h : LD W F lb d most v c dn k) (hbl : W.heap[bl]? = some (.cells #[.pointer (some ⟨lb, 0, none⟩)] 48 (0, 0))) (hb1 : W.heap[b1]? = some (.cells #[.string s] 9 (0, 0))) (nbl : ¬ F bl) (nb1 : ¬ F b1) :
    Calls Tryz.prog 152 #[.pointer (some ⟨bl, 0, none⟩), .pointer (some ⟨b1, 0, none⟩)] W fun e w' => e = .returned (.int .i64 (removeK k s).1) ∧ Dp W F d (removeK k s).2 w' := by
  have HS0 : W.drew.cell? ⟨bl, 0, none⟩ = some (.pointer (some ⟨lb, 0, none⟩)) ∧ W.drew.cell? ⟨b1, 0, none⟩ = some (.string s) ∧ W.drew.cell? ⟨lb, 0, none⟩ = some (.pointer (some ⟨d, 0, none⟩)) := ⟨box_cell hbl, box_cell hb1, h.c0⟩
  have hD := fun w' (hb : Below W.heap.size W w') => remove_any d F k s hst w' (h.D.below hb)
  obtain ⟨P, hP⟩ : ∃ P, removeK k s = P := ⟨_, rfl⟩
  rw [hP] at hD ⊢
  clear hP
  have nlb := h.nf
  go_enter Tryz.func152, Tryz.ntmps152
  go_upto_region 1 with fail
  refine wp_region_lx (fun w' => w'.cell? ⟨bl, 0, none⟩ = some (.pointer (some ⟨lb, 0, none⟩)) ∧ w'.cell? ⟨b1, 0, none⟩ = some (.string s) ∧ w'.cell? ⟨lb, 0, none⟩ = some (.pointer (some ⟨d, 0, none⟩))) [] 7 (by kernel_rfl) (by kernel_rfl) ?_
  refine lx_rd 0 (.pointer (some ⟨lb, 0, none⟩)) (by kernel_rfl) (fun _ _ d _ _ h => by cases d <;> exact h) (by kernel_rfl) HS0 rfl rfl rfl (fun w' hS => ?ha0) ?_
  case ha0 => have q := hS.1; first | (go_simp; rfl) | go_simp
  simp only [List.setIfInBounds_toArray, List.set_cons_zero, List.set_cons_succ]
  refine lx_rd 1 (.pointer (some ⟨lb, 0, none⟩)) (by kernel_rfl) (fun _ _ d _ _ h => by cases d <;> exact h) (by kernel_rfl) HS0 rfl rfl rfl (fun w' hS => ?ha1) ?_
  case ha1 => first | (go_simp; rfl) | go_simp
  simp only [List.setIfInBounds_toArray, List.set_cons_zero, List.set_cons_succ]
  refine lx_rd 2 (.pointer (some ⟨lb, 0, none⟩)) (by kernel_rfl) (fun _ _ d _ _ h => by cases d <;> exact h) (by kernel_rfl) HS0 rfl rfl rfl (fun w' hS => ?ha2) ?_
  case ha2 => first | (go_simp; rfl) | go_simp
  simp only [List.setIfInBounds_toArray, List.set_cons_zero, List.set_cons_succ]
  refine lx_rd 3 (.pointer (some ⟨d, 0, none⟩)) (by kernel_rfl) (fun _ _ d _ _ h => by cases d <;> exact h) (by kernel_rfl) HS0 rfl rfl rfl (fun w' hS => ?ha3) ?_
  case ha3 => have q := hS.2.2; first | (go_simp; rfl) | go_simp
  simp only [List.setIfInBounds_toArray, List.set_cons_zero, List.set_cons_succ]
  refine lx_rd 4 (.string s) (by kernel_rfl) (fun _ _ d _ _ h => by cases d <;> exact h) (by kernel_rfl) HS0 rfl rfl rfl (fun w' hS => ?ha4) ?_
  case ha4 => have q := hS.2.1; first | (go_simp; rfl) | go_simp
  simp only [List.setIfInBounds_toArray, List.set_cons_zero, List.set_cons_succ]
  refine lx_one 5 (by kernel_rfl) (stepT_call 153 ?a9 rfl rfl rfl ?r9 ?_)
  case r9 => first | (go_simp; rfl) | go_simp
  refine (hD W.drew ((Below.refl _ _).drew)).mono ?_
  rintro e w1 ⟨rfl, hdp⟩
  have HS1 : w1.cell? ⟨bl, 0, none⟩ = some (.pointer (some ⟨lb, 0, none⟩)) ∧ w1.cell? ⟨b1, 0, none⟩ = some (.string s) ∧ w1.cell? ⟨lb, 0, none⟩ = some (.pointer (some ⟨d, 0, none⟩)) := by
    obtain ⟨_, _, hk, _⟩ := hdp
    exact ⟨hk.cell (p := ⟨bl, 0, none⟩) (HS0.1) nbl, hk.cell (p := ⟨b1, 0, none⟩) (HS0.2.1) nb1, hk.cell (p := ⟨lb, 0, none⟩) (HS0.2.2) nlb⟩
  refine ⟨_, rfl, fun _ => HS1, ?_⟩
  simp only [List.setIfInBounds_toArray, List.set_cons_zero, List.set_cons_succ]
  refine lx_rd 6 ?vb6 (by kernel_rfl) (fun _ _ d _ _ h => by cases d <;> exact h) (by kernel_rfl) HS1 rfl rfl rfl (fun w' hS => ?hb6) ?_
  case hb6 => first | (go_simp; rfl) | go_simp
  simp only [List.setIfInBounds_toArray, List.set_cons_zero, List.set_cons_succ]
  refine lx_nil (by kernel_rfl) ?_
  go_wp2
  go_ret
  exact ⟨rfl, dp_drew hdp⟩

set_option maxHeartbeats 1000000 in
theorem sremove_any (lb d most : Nat) (F : Nat → Prop) (v : Value) (c : Ch) (dn : Bool) (k : Dk) (s : Nm) (hst : k.steps < 1000000) (w : World) (h : LD w F lb d most v c dn k) :
    Calls Tryz.prog 134 #[.pointer (some ⟨lb, 0, none⟩), .string s] w fun e w' => Gs (stp dn k (removeK k s)).1 e ∧ Lp w F lb d most v c (stp dn k (removeK k s)).2.1 (stp dn k (removeK k s)).2.2 w' := by
  have hmf : ∀ (fn : Fn) (first cap : Array Value) (w : World), (Instr.makeFunc fn first cap).run Tryz.prog w = .ok (.func fn first cap) w := fun _ _ _ _ => rfl
  obtain ⟨W, hW⟩ : ∃ W, (w.alloc (.cells #[.pointer (some ⟨lb, 0, none⟩)] 48)).alloc (.cells #[.string s] 9) = W := ⟨_, rfl⟩
  have hB : Below w.heap.size w W := by rw [← hW]; exact ((Below.refl _ _).alloc (Nat.le_refl _) _).alloc (by simp) _
  have q0 : W.heap[w.heap.size]? = some (.cells #[.pointer (some ⟨lb, 0, none⟩)] 48 (0, 0)) := by rw [← hW]; exact (by simpa using alloc2_at (w) (.cells #[.pointer (some ⟨lb, 0, none⟩)] 48) (.cells #[.string s] 9))
  have q1 : W.heap[w.heap.size + 1]? = some (.cells #[.string s] 9 (0, 0)) := by rw [← hW]; exact (by simpa using alloc_at (w.alloc (.cells #[.pointer (some ⟨lb, 0, none⟩)] 48)) (.cells #[.string s] 9))
  have hLW := h.below hB
  have hlt := h.D.lt
  have hA : Calls Tryz.prog 117 #[.pointer (some ⟨lb, 0, none⟩), .func (.func 152) #[] #[.pointer (some ⟨w.heap.size, 0, none⟩), .pointer (some ⟨w.heap.size + 1, 0, none⟩)]] W fun e w' => Gs (stp dn k (removeK k s)).1 e ∧ Lp W F lb d most v c (stp dn k (removeK k s)).2.1 (stp dn k (removeK k s)).2.2 w' := by
    refine step_any _ _ _ W F lb d most v c dn k hLW (enters_of Tryz.func152 (by kernel_rfl) rfl) ?_
    exact sremoveC (w.heap.size) (w.heap.size + 1) lb d most F v c dn k s hst W hLW q0 q1 (fun hf => by have := hlt _ hf; omega) (fun hf => by have := hlt _ hf; omega)
  have c0 := box_cell q0
  clear hLW
  obtain ⟨P, hP⟩ : ∃ P, stp dn k (removeK k s) = P := ⟨_, rfl⟩
  rw [hP] at hA ⊢
  clear hP
  obtain ⟨en, P2⟩ := P
  dsimp only at hA ⊢
  by_cases h0 : en = 0
  · subst h0
    have hA' := hA.mono (fun e w' h => And.intro (h.1.elim (fun k => k.2) (fun k => absurd rfl k.1)) h.2 : ∀ e w', _ → (e = .returned (.tuple #[]) ∧ _))
    clear hA
    go_enter Tryz.func134, Tryz.ntmps134
    go_upto_region 1 with fail
    clear hW
    go_wp2_with (first
      | (go_at_call 117; refine hA'.mono ?_; rintro e w1 ⟨rfl, hp⟩))
    go_end0
    exact ⟨Or.inl ⟨rfl, rfl⟩, hp.from hB⟩
  · have hA' := hA.mono (fun e w' h => And.intro (h.1.elim (fun k => absurd k.1 h0) (fun k => k.2)) h.2 : ∀ e w', _ → (e = .panicked (gaveS en) ∧ _))
    clear hA
    go_enter Tryz.func134, Tryz.ntmps134
    go_upto_region 1 with fail
    clear hW
    go_wp2_with (first
      | (go_at_call 117; refine hA'.mono ?_; rintro e w1 ⟨rfl, hp⟩))
    exact ⟨rfl, gs_no h0 rfl, hp.from hB⟩

set_option maxHeartbeats 1000000 in
theorem swriteC (bl b1 b2 lb d most : Nat) (F : Nat → Prop) (v : Value) (c : Ch) (dn : Bool) (k : Dk) (s : Nm) (a : Option Addr) (m e : Nat) (ys : List Int) (hst : k.steps < 1000000) (hfl : k.fs.length < 1000000) (hm : m ≤ 1000000000) (W : World) (h : LD W F lb d most v c dn k) (hbl : W.heap[bl]? = some (.cells #[.pointer (some ⟨lb, 0, none⟩)] 48 (0, 0))) (hb1 : W.heap[b1]? = some (.cells #[.string s] 9 (0, 0))) (hb2 : W.heap[b2]? = some (.cells #[.slice a m e] 29 (0, 0))) (nbl : ¬ F bl) (nb1 : ¬ F b1) (nb2 : ¬ F b2) (hR : Rd W a m e ys) :
    Calls Tryz.prog 138 #[.pointer (some ⟨bl, 0, none⟩), .pointer (some ⟨b1, 0, none⟩), .pointer (some ⟨b2, 0, none⟩)] W fun e w' => e = .returned (.int .i64 (appK k s ys).1) ∧ Dp W F d (appK k s ys).2 w' := by
  have HS0 : W.drew.cell? ⟨bl, 0, none⟩ = some (.pointer (some ⟨lb, 0, none⟩)) ∧ W.drew.cell? ⟨b1, 0, none⟩ = some (.string s) ∧ W.drew.cell? ⟨b2, 0, none⟩ = some (.slice a m e) ∧ W.drew.cell? ⟨lb, 0, none⟩ = some (.pointer (some ⟨d, 0, none⟩)) := ⟨box_cell hbl, box_cell hb1, box_cell hb2, h.c0⟩
  have hD := fun w' (hb : Below W.heap.size W w') => append_any d F k s a m e ys hst hfl hm w' (h.D.below hb) (hR.carry (Nat.le_refl _) hb)
  obtain ⟨P, hP⟩ : ∃ P, appK k s ys = P := ⟨_, rfl⟩
  rw [hP] at hD ⊢
  clear hP
  have nlb := h.nf
  go_enter Tryz.func138, Tryz.ntmps138
  go_upto_region 1 with fail
  refine wp_region_lx (fun w' => w'.cell? ⟨bl, 0, none⟩ = some (.pointer (some ⟨lb, 0, none⟩)) ∧ w'.cell? ⟨b1, 0, none⟩ = some (.string s) ∧ w'.cell? ⟨b2, 0, none⟩ = some (.slice a m e) ∧ w'.cell? ⟨lb, 0, none⟩ = some (.pointer (some ⟨d, 0, none⟩))) [] 8 (by kernel_rfl) (by kernel_rfl) ?_
  refine lx_rd 0 (.pointer (some ⟨lb, 0, none⟩)) (by kernel_rfl) (fun _ _ d _ _ h => by cases d <;> exact h) (by kernel_rfl) HS0 rfl rfl rfl (fun w' hS => ?ha0) ?_
  case ha0 => have q := hS.1; first | (go_simp; rfl) | go_simp
  simp only [List.setIfInBounds_toArray, List.set_cons_zero, List.set_cons_succ]
  refine lx_rd 1 (.pointer (some ⟨lb, 0, none⟩)) (by kernel_rfl) (fun _ _ d _ _ h => by cases d <;> exact h) (by kernel_rfl) HS0 rfl rfl rfl (fun w' hS => ?ha1) ?_
  case ha1 => first | (go_simp; rfl) | go_simp
  simp only [List.setIfInBounds_toArray, List.set_cons_zero, List.set_cons_succ]
  refine lx_rd 2 (.pointer (some ⟨lb, 0, none⟩)) (by kernel_rfl) (fun _ _ d _ _ h => by cases d <;> exact h) (by kernel_rfl) HS0 rfl rfl rfl (fun w' hS => ?ha2) ?_
  case ha2 => first | (go_simp; rfl) | go_simp
  simp only [List.setIfInBounds_toArray, List.set_cons_zero, List.set_cons_succ]
  refine lx_rd 3 (.pointer (some ⟨d, 0, none⟩)) (by kernel_rfl) (fun _ _ d _ _ h => by cases d <;> exact h) (by kernel_rfl) HS0 rfl rfl rfl (fun w' hS => ?ha3) ?_
  case ha3 => have q := hS.2.2.2; first | (go_simp; rfl) | go_simp
  simp only [List.setIfInBounds_toArray, List.set_cons_zero, List.set_cons_succ]
  refine lx_rd 4 (.string s) (by kernel_rfl) (fun _ _ d _ _ h => by cases d <;> exact h) (by kernel_rfl) HS0 rfl rfl rfl (fun w' hS => ?ha4) ?_
  case ha4 => have q := hS.2.1; first | (go_simp; rfl) | go_simp
  simp only [List.setIfInBounds_toArray, List.set_cons_zero, List.set_cons_succ]
  refine lx_rd 5 (.slice a m e) (by kernel_rfl) (fun _ _ d _ _ h => by cases d <;> exact h) (by kernel_rfl) HS0 rfl rfl rfl (fun w' hS => ?ha5) ?_
  case ha5 => have q := hS.2.2.1; first | (go_simp; rfl) | go_simp
  simp only [List.setIfInBounds_toArray, List.set_cons_zero, List.set_cons_succ]
  refine lx_one 6 (by kernel_rfl) (stepT_call 16 ?a9 rfl rfl rfl ?r9 ?_)
  case r9 => first | (go_simp; rfl) | go_simp
  refine (hD W.drew ((Below.refl _ _).drew)).mono ?_
  rintro e w1 ⟨rfl, hdp⟩
  have HS1 : w1.cell? ⟨bl, 0, none⟩ = some (.pointer (some ⟨lb, 0, none⟩)) ∧ w1.cell? ⟨b1, 0, none⟩ = some (.string s) ∧ w1.cell? ⟨b2, 0, none⟩ = some (.slice a m e) ∧ w1.cell? ⟨lb, 0, none⟩ = some (.pointer (some ⟨d, 0, none⟩)) := by
    obtain ⟨_, _, hk, _⟩ := hdp
    exact ⟨hk.cell (p := ⟨bl, 0, none⟩) (HS0.1) nbl, hk.cell (p := ⟨b1, 0, none⟩) (HS0.2.1) nb1, hk.cell (p := ⟨b2, 0, none⟩) (HS0.2.2.1) nb2, hk.cell (p := ⟨lb, 0, none⟩) (HS0.2.2.2) nlb⟩
  refine ⟨_, rfl, fun _ => HS1, ?_⟩
  simp only [List.setIfInBounds_toArray, List.set_cons_zero, List.set_cons_succ]
  refine lx_rd 7 ?vb7 (by kernel_rfl) (fun _ _ d _ _ h => by cases d <;> exact h) (by kernel_rfl) HS1 rfl rfl rfl (fun w' hS => ?hb7) ?_
  case hb7 => first | (go_simp; rfl) | go_simp
  simp only [List.setIfInBounds_toArray, List.set_cons_zero, List.set_cons_succ]
  refine lx_nil (by kernel_rfl) ?_
  go_wp2
  go_ret
  exact ⟨rfl, dp_drew hdp⟩

set_option maxHeartbeats 1000000 in
theorem swrite_any (lb d most : Nat) (F : Nat → Prop) (v : Value) (c : Ch) (dn : Bool) (k : Dk) (s : Nm) (a : Option Addr) (m e : Nat) (ys : List Int) (hst : k.steps < 1000000) (hfl : k.fs.length < 1000000) (hm : m ≤ 1000000000) (w : World) (h : LD w F lb d most v c dn k) (hR : Rd w a m e ys) :
    Calls Tryz.prog 102 #[.pointer (some ⟨lb, 0, none⟩), .string s, .slice a m e] w fun e w' => Gs (stp dn k (appK k s ys)).1 e ∧ Lp w F lb d most v c (stp dn k (appK k s ys)).2.1 (stp dn k (appK k s ys)).2.2 w' := by
  have hmf : ∀ (fn : Fn) (first cap : Array Value) (w : World), (Instr.makeFunc fn first cap).run Tryz.prog w = .ok (.func fn first cap) w := fun _ _ _ _ => rfl
  obtain ⟨W, hW⟩ : ∃ W, ((w.alloc (.cells #[.pointer (some ⟨lb, 0, none⟩)] 48)).alloc (.cells #[.string s] 9)).alloc (.cells #[.slice a m e] 29) = W := ⟨_, rfl⟩
  have hB : Below w.heap.size w W := by rw [← hW]; exact (((Below.refl _ _).alloc (Nat.le_refl _) _).alloc (by simp) _).alloc (by simp; omega) _
  have q0 : W.heap[w.heap.size]? = some (.cells #[.pointer (some ⟨lb, 0, none⟩)] 48 (0, 0)) := by rw [← hW]; exact alloc3_at w _ _ _
  have q1 : W.heap[w.heap.size + 1]? = some (.cells #[.string s] 9 (0, 0)) := by rw [← hW]; exact (by simpa using alloc2_at (w.alloc (.cells #[.pointer (some ⟨lb, 0, none⟩)] 48)) (.cells #[.string s] 9) (.cells #[.slice a m e] 29))
  have q2 : W.heap[w.heap.size + 1 + 1]? = some (.cells #[.slice a m e] 29 (0, 0)) := by rw [← hW]; exact (by simpa using alloc_at ((w.alloc (.cells #[.pointer (some ⟨lb, 0, none⟩)] 48)).alloc (.cells #[.string s] 9)) (.cells #[.slice a m e] 29))
  have hLW := h.below hB
  have hRW := hR.carry (Nat.le_refl _) hB
  have hlt := h.D.lt
  have hA : Calls Tryz.prog 117 #[.pointer (some ⟨lb, 0, none⟩), .func (.func 138) #[] #[.pointer (some ⟨w.heap.size, 0, none⟩), .pointer (some ⟨w.heap.size + 1, 0, none⟩), .pointer (some ⟨w.heap.size + 1 + 1, 0, none⟩)]] W fun e w' => Gs (stp dn k (appK k s ys)).1 e ∧ Lp W F lb d most v c (stp dn k (appK k s ys)).2.1 (stp dn k (appK k s ys)).2.2 w' := by
    refine step_any _ _ _ W F lb d most v c dn k hLW (enters_of Tryz.func138 (by kernel_rfl) rfl) ?_
    exact swriteC (w.heap.size) (w.heap.size + 1) (w.heap.size + 1 + 1) lb d most F v c dn k s a m e ys hst hfl hm W hLW q0 q1 q2 (fun hf => by have := hlt _ hf; omega) (fun hf => by have := hlt _ hf; omega) (fun hf => by have := hlt _ hf; omega) hRW
  have c0 := box_cell q0
  clear hLW hRW
  obtain ⟨P, hP⟩ : ∃ P, stp dn k (appK k s ys) = P := ⟨_, rfl⟩
  rw [hP] at hA ⊢
  clear hP
  obtain ⟨en, P2⟩ := P
  dsimp only at hA ⊢
  by_cases h0 : en = 0
  · subst h0
    have hA' := hA.mono (fun e w' h => And.intro (h.1.elim (fun k => k.2) (fun k => absurd rfl k.1)) h.2 : ∀ e w', _ → (e = .returned (.tuple #[]) ∧ _))
    clear hA
    go_enter Tryz.func102, Tryz.ntmps102
    go_upto_region 1 with fail
    clear hW
    go_wp2_with (first
      | (go_at_call 117; refine hA'.mono ?_; rintro e w1 ⟨rfl, hp⟩))
    go_end0
    exact ⟨Or.inl ⟨rfl, rfl⟩, hp.from hB⟩
  · have hA' := hA.mono (fun e w' h => And.intro (h.1.elim (fun k => absurd k.1 h0) (fun k => k.2)) h.2 : ∀ e w', _ → (e = .panicked (gaveS en) ∧ _))
    clear hA
    go_enter Tryz.func102, Tryz.ntmps102
    go_upto_region 1 with fail
    clear hW
    go_wp2_with (first
      | (go_at_call 117; refine hA'.mono ?_; rintro e w1 ⟨rfl, hp⟩))
    exact ⟨rfl, gs_no h0 rfl, hp.from hB⟩

end Go.Proofs.YtikkieaokfailaaGreatDoor

/-
  DERIVED: THE SHELF's CONTRACTS AT THIS DUMP, IN PLAIN WORDS (tools/lay-plain.mjs out of 'ShelfSrcNow.lean', which tools/lay-shelf.mjs wrote): THE SAME DECLARATIONS UNDER THE SAME NAMES: 'import', 'namespace', 'open', 'def', 'theorem' AND NOTHING ELSE: no command of the shelf's: FOR A HAND-IN. Each laying: the table of numbers ('.._ren') and one theorem, a field a fact of the dump's own or the kernel's comparison; each contract: ONE APPLICATION.
-/
namespace Go.Proofs
open Go.Shelf
def Tryz.laysM171_ren : Go.Shelf.Ren := ⟨fun | 171 => 140 | 243 => 159 | 246 => 174 | 283 => 170 | 284 => 171 | 285 => 172 | 286 => 173 | 129 => 184 | 317 => 186 | 318 => 187 | 319 => 188 | 320 => 189 | 337 => 195 | 338 => 196 | n => n, fun | 3 => 3 | 9 => 9 | 2 => 2 | 4 => 4 | 171 => 184 | 0 => 0 | 53 => 88 | 37 => 29 | 5 => 5 | 173 => 187 | 212 => 199 | 51 => 159 | 20 => 20 | 213 => 200 | 46 => 86 | 232 => 209 | 233 => 210 | n => n, fun | 17 => 0 | 18 => 1 | 19 => 2 | n => n⟩
theorem Tryz.laysM171 : Go.Proofs.LaysM.n171 Tryz.prog Tryz.laysM171_ren := {
  mixed := by kernel_rfl
  f129 := Tryz.func184.trans (congrArg some (by kernel_rfl))
  f171 := Tryz.func140.trans (congrArg some (by kernel_rfl))
  f243 := Tryz.func159.trans (congrArg some (by kernel_rfl))
  f246 := Tryz.func174.trans (congrArg some (by kernel_rfl))
  f283 := Tryz.func170.trans (congrArg some (by kernel_rfl))
  f284 := Tryz.func171.trans (congrArg some (by kernel_rfl))
  f285 := Tryz.func172.trans (congrArg some (by kernel_rfl))
  f286 := Tryz.func173.trans (congrArg some (by kernel_rfl))
  f317 := Tryz.func186.trans (congrArg some (by kernel_rfl))
  f318 := Tryz.func187.trans (congrArg some (by kernel_rfl))
  f319 := Tryz.func188.trans (congrArg some (by kernel_rfl))
  f320 := Tryz.func189.trans (congrArg some (by kernel_rfl))
  f337 := Tryz.func195.trans (congrArg some (by kernel_rfl))
  f338 := Tryz.func196.trans (congrArg some (by kernel_rfl))
  t0 := Tryz.underlying0
  a0 := Tryz.isAgg0
  z0 := Tryz.sizeOf0
  v0 := Tryz.zeroValue0
  t2 := Tryz.underlying2
  a2 := Tryz.isAgg2
  z2 := Tryz.sizeOf2
  v2 := Tryz.zeroValue2
  t3 := Tryz.underlying3
  a3 := Tryz.isAgg3
  z3 := Tryz.sizeOf3
  v3 := Tryz.zeroValue3
  t4 := Tryz.underlying4
  a4 := Tryz.isAgg4
  z4 := Tryz.sizeOf4
  v4 := Tryz.zeroValue4
  t5 := Tryz.underlying5
  a5 := Tryz.isAgg5
  z5 := Tryz.sizeOf5
  v5 := Tryz.zeroValue5
  t9 := Tryz.underlying9
  a9 := Tryz.isAgg9
  z9 := Tryz.sizeOf9
  v9 := Tryz.zeroValue9
  t20 := Tryz.underlying20
  a20 := Tryz.isAgg20
  z20 := Tryz.sizeOf20
  v20 := Tryz.zeroValue20
  t37 := Tryz.underlying29
  a37 := Tryz.isAgg29
  z37 := Tryz.sizeOf29
  v37 := Tryz.zeroValue29
  t46 := Tryz.underlying86
  a46 := Tryz.isAgg86
  z46 := Tryz.sizeOf86
  v46 := Tryz.zeroValue86
  t51 := Tryz.underlying159
  a51 := Tryz.isAgg159
  z51 := Tryz.sizeOf159
  v51 := Tryz.zeroValue159
  t53 := Tryz.underlying88
  a53 := Tryz.isAgg88
  z53 := Tryz.sizeOf88
  v53 := Tryz.zeroValue88
  t171 := Tryz.underlying184
  a171 := Tryz.isAgg184
  z171 := Tryz.sizeOf184
  v171 := Tryz.zeroValue184
  t173 := Tryz.underlying187
  a173 := Tryz.isAgg187
  z173 := Tryz.sizeOf187
  v173 := Tryz.zeroValue187
  t212 := Tryz.underlying199
  a212 := Tryz.isAgg199
  z212 := Tryz.sizeOf199
  v212 := Tryz.zeroValue199
  t213 := Tryz.underlying200
  a213 := Tryz.isAgg200
  z213 := Tryz.sizeOf200
  t232 := Tryz.underlying209
  a232 := Tryz.isAgg209
  z232 := Tryz.sizeOf209
  v232 := Tryz.zeroValue209
  t233 := Tryz.underlying210
  a233 := Tryz.isAgg210
  z233 := Tryz.sizeOf210
  v233 := Tryz.zeroValue210
  g17 := by kernel_rfl
  g18 := by kernel_rfl
  g19 := by kernel_rfl
  i0 := by kernel_rfl
  i2 := by kernel_rfl
  i3 := by kernel_rfl
  i4 := by kernel_rfl
  i5 := by kernel_rfl
  i9 := by kernel_rfl
  i20 := by kernel_rfl
  i37 := by kernel_rfl
  i46 := by kernel_rfl
  i51 := by kernel_rfl
  i53 := by kernel_rfl
  i171 := by kernel_rfl
  i173 := by kernel_rfl
  i212 := by kernel_rfl
  i232 := by kernel_rfl
  i233 := by kernel_rfl
  m17 := by kernel_rfl
  m18 := by kernel_rfl
  m19 := by kernel_rfl }
def Tryz.lays283_ren : Go.Shelf.Ren := ⟨fun | 283 => 170 | n => n, fun | 3 => 3 | 9 => 9 | 4 => 4 | n => n, fun | n => n⟩
theorem Tryz.lays283 : Go.Proofs.Lays.n283 Tryz.prog Tryz.lays283_ren := {
  mixed := by kernel_rfl
  f283 := Tryz.func170.trans (congrArg some (by kernel_rfl))
  t3 := Tryz.underlying3
  a3 := Tryz.isAgg3
  z3 := Tryz.sizeOf3
  v3 := Tryz.zeroValue3
  t4 := Tryz.underlying4
  a4 := Tryz.isAgg4
  z4 := Tryz.sizeOf4
  v4 := Tryz.zeroValue4
  t9 := Tryz.underlying9
  a9 := Tryz.isAgg9
  z9 := Tryz.sizeOf9
  v9 := Tryz.zeroValue9 }
def Tryz.laysM284_ren : Go.Shelf.Ren := ⟨fun | 284 => 171 | 129 => 184 | 317 => 186 | 318 => 187 | n => n, fun | 53 => 88 | 3 => 3 | 212 => 199 | 0 => 0 | 4 => 4 | 46 => 86 | 5 => 5 | 9 => 9 | n => n, fun | 17 => 0 | n => n⟩
theorem Tryz.laysM284 : Go.Proofs.LaysM.n284 Tryz.prog Tryz.laysM284_ren := {
  mixed := by kernel_rfl
  f129 := Tryz.func184.trans (congrArg some (by kernel_rfl))
  f284 := Tryz.func171.trans (congrArg some (by kernel_rfl))
  f317 := Tryz.func186.trans (congrArg some (by kernel_rfl))
  f318 := Tryz.func187.trans (congrArg some (by kernel_rfl))
  t0 := Tryz.underlying0
  a0 := Tryz.isAgg0
  z0 := Tryz.sizeOf0
  v0 := Tryz.zeroValue0
  t3 := Tryz.underlying3
  a3 := Tryz.isAgg3
  z3 := Tryz.sizeOf3
  v3 := Tryz.zeroValue3
  t4 := Tryz.underlying4
  a4 := Tryz.isAgg4
  z4 := Tryz.sizeOf4
  v4 := Tryz.zeroValue4
  t5 := Tryz.underlying5
  a5 := Tryz.isAgg5
  z5 := Tryz.sizeOf5
  v5 := Tryz.zeroValue5
  t9 := Tryz.underlying9
  a9 := Tryz.isAgg9
  z9 := Tryz.sizeOf9
  v9 := Tryz.zeroValue9
  t46 := Tryz.underlying86
  a46 := Tryz.isAgg86
  z46 := Tryz.sizeOf86
  v46 := Tryz.zeroValue86
  t53 := Tryz.underlying88
  a53 := Tryz.isAgg88
  z53 := Tryz.sizeOf88
  v53 := Tryz.zeroValue88
  t212 := Tryz.underlying199
  a212 := Tryz.isAgg199
  z212 := Tryz.sizeOf199
  v212 := Tryz.zeroValue199
  g17 := by kernel_rfl
  i0 := by kernel_rfl
  i3 := by kernel_rfl
  i4 := by kernel_rfl
  i5 := by kernel_rfl
  i9 := by kernel_rfl
  i46 := by kernel_rfl
  i53 := by kernel_rfl
  i212 := by kernel_rfl
  m17 := by kernel_rfl }
def Tryz.lays285_ren : Go.Shelf.Ren := ⟨fun | 285 => 172 | n => n, fun | 37 => 29 | 53 => 88 | 3 => 3 | 4 => 4 | 51 => 159 | 9 => 9 | 5 => 5 | 0 => 0 | n => n, fun | n => n⟩
theorem Tryz.lays285 : Go.Proofs.Lays.n285 Tryz.prog Tryz.lays285_ren := {
  mixed := by kernel_rfl
  f285 := Tryz.func172.trans (congrArg some (by kernel_rfl))
  t0 := Tryz.underlying0
  a0 := Tryz.isAgg0
  z0 := Tryz.sizeOf0
  v0 := Tryz.zeroValue0
  t3 := Tryz.underlying3
  a3 := Tryz.isAgg3
  z3 := Tryz.sizeOf3
  v3 := Tryz.zeroValue3
  t4 := Tryz.underlying4
  a4 := Tryz.isAgg4
  z4 := Tryz.sizeOf4
  v4 := Tryz.zeroValue4
  t5 := Tryz.underlying5
  a5 := Tryz.isAgg5
  z5 := Tryz.sizeOf5
  v5 := Tryz.zeroValue5
  t9 := Tryz.underlying9
  a9 := Tryz.isAgg9
  z9 := Tryz.sizeOf9
  v9 := Tryz.zeroValue9
  t37 := Tryz.underlying29
  a37 := Tryz.isAgg29
  z37 := Tryz.sizeOf29
  v37 := Tryz.zeroValue29
  t51 := Tryz.underlying159
  a51 := Tryz.isAgg159
  z51 := Tryz.sizeOf159
  v51 := Tryz.zeroValue159
  t53 := Tryz.underlying88
  a53 := Tryz.isAgg88
  z53 := Tryz.sizeOf88
  v53 := Tryz.zeroValue88 }
def Tryz.lays99_ren : Go.Shelf.Ren := ⟨fun | 99 => 151 | 206 => 166 | n => n, fun | 9 => 9 | 4 => 4 | 3 => 3 | n => n, fun | n => n⟩
theorem Tryz.lays99 : Go.Proofs.Lays.n99 Tryz.prog Tryz.lays99_ren := {
  mixed := by kernel_rfl
  f99 := Tryz.func151.trans (congrArg some (by kernel_rfl))
  f206 := Tryz.func166.trans (congrArg some (by kernel_rfl))
  t3 := Tryz.underlying3
  a3 := Tryz.isAgg3
  z3 := Tryz.sizeOf3
  v3 := Tryz.zeroValue3
  t4 := Tryz.underlying4
  a4 := Tryz.isAgg4
  z4 := Tryz.sizeOf4
  v4 := Tryz.zeroValue4
  t9 := Tryz.underlying9
  a9 := Tryz.isAgg9
  z9 := Tryz.sizeOf9
  v9 := Tryz.zeroValue9 }
def Tryz.laysb115_ren : Go.Shelf.Ren := ⟨fun | 115 => 131 | n => n, fun | 37 => 29 | 4 => 4 | 9 => 9 | 5 => 5 | n => n, fun | n => n⟩
theorem Tryz.laysb115 : Go.Proofs.Lays.nb115 Tryz.prog Tryz.laysb115_ren := {
  mixed := by kernel_rfl
  f115 := Tryz.func131.trans (congrArg some (by kernel_rfl))
  t4 := Tryz.underlying4
  a4 := Tryz.isAgg4
  z4 := Tryz.sizeOf4
  v4 := Tryz.zeroValue4
  t9 := Tryz.underlying9
  a9 := Tryz.isAgg9
  z9 := Tryz.sizeOf9
  v9 := Tryz.zeroValue9
  t37 := Tryz.underlying29
  a37 := Tryz.isAgg29
  z37 := Tryz.sizeOf29
  v37 := Tryz.zeroValue29
  t5 := Tryz.underlying5
  a5 := Tryz.isAgg5
  z5 := Tryz.sizeOf5
  v5 := Tryz.zeroValue5 }
def Tryz.lays2n26_ren : Go.Shelf.Ren := ⟨fun | 26 => 150 | 33 => 164 | 34 => 165 | 38 => 185 | n => n, fun | 24 => 81 | 9 => 9 | 3 => 3 | 4 => 4 | 40 => 86 | 0 => 0 | n => n, fun | n => n⟩
theorem Tryz.lays2n26 : Go.Proofs.Lays2.n26 Tryz.prog Tryz.lays2n26_ren := {
  mixed := by kernel_rfl
  f26 := Tryz.func150.trans (congrArg some (by kernel_rfl))
  f33 := Tryz.func164.trans (congrArg some (by kernel_rfl))
  f34 := Tryz.func165.trans (congrArg some (by kernel_rfl))
  f38 := Tryz.func185.trans (congrArg some (by kernel_rfl))
  t0 := Tryz.underlying0
  a0 := Tryz.isAgg0
  z0 := Tryz.sizeOf0
  v0 := Tryz.zeroValue0
  t3 := Tryz.underlying3
  a3 := Tryz.isAgg3
  z3 := Tryz.sizeOf3
  v3 := Tryz.zeroValue3
  t4 := Tryz.underlying4
  a4 := Tryz.isAgg4
  z4 := Tryz.sizeOf4
  v4 := Tryz.zeroValue4
  t9 := Tryz.underlying9
  a9 := Tryz.isAgg9
  z9 := Tryz.sizeOf9
  v9 := Tryz.zeroValue9
  t24 := Tryz.underlying81
  a24 := Tryz.isAgg81
  z24 := Tryz.sizeOf81
  v24 := Tryz.zeroValue81
  t40 := Tryz.underlying86
  a40 := Tryz.isAgg86
  z40 := Tryz.sizeOf86
  v40 := Tryz.zeroValue86 }
def Tryz.laysH8_ren : Go.Shelf.Ren := ⟨fun | 8 => 71 | 6 => 107 | n => n, fun | 22 => 30 | 23 => 29 | 25 => 120 | 4 => 4 | 3 => 3 | 0 => 0 | n => n, fun | n => n⟩
theorem Tryz.laysH8 : Go.Proofs.SlLaysH.n8 Tryz.prog Tryz.laysH8_ren := {
  mixed := by kernel_rfl
  f6 := ⟨Tryz.f107.name, by decide, Tryz.func107.trans (congrArg some (by kernel_rfl))⟩
  f8 := ⟨Tryz.f71.name, by decide, Tryz.func71.trans (congrArg some (by kernel_rfl))⟩
  t0 := Tryz.underlying0
  a0 := Tryz.isAgg0
  z0 := Tryz.sizeOf0
  v0 := Tryz.zeroValue0
  t3 := Tryz.underlying3
  a3 := Tryz.isAgg3
  z3 := Tryz.sizeOf3
  v3 := Tryz.zeroValue3
  t4 := Tryz.underlying4
  a4 := Tryz.isAgg4
  z4 := Tryz.sizeOf4
  v4 := Tryz.zeroValue4
  t22 := Tryz.underlying30
  a22 := Tryz.isAgg30
  z22 := Tryz.sizeOf30
  v22 := Tryz.zeroValue30
  a23 := Tryz.isAgg29
  z23 := Tryz.sizeOf29
  t25 := Tryz.underlying120
  a25 := Tryz.isAgg120
  z25 := Tryz.sizeOf120
  v25 := Tryz.zeroValue120 }
end Go.Proofs

/- Decimal numbers, and the names of segments. -/
namespace Go.Proofs.YtikkieaokfailaaGreatDoor
open Go.RowKit Go.Joins Go.Sort

def Pw (w : World) : Prop := Lib.TabIs Tryz.prog w "internal/strconv.uint64pow10" .u64 Lib.pow10Tab
theorem Pw.at {w : World} (h : Pw w) : 0 < w.heap.size := by
  unfold Pw Lib.TabIs World.var? at h
  rw [show Tryz.prog.globalNamed "internal/strconv.uint64pow10" = some 0 from by kernel_rfl] at h
  simp only [Option.bind_some] at h
  rcases Nat.lt_or_ge 0 w.heap.size with h' | h'
  · exact h'
  · rw [Array.getElem?_eq_none h'] at h; cases h
theorem Pw.keep {S : Nat → Prop} {w w' : World} (h : Pw w) (hk : Keep S w w') (hs : ¬ S 0) : Pw w' := by
  have hlt := h.at
  unfold Pw Lib.TabIs World.var? at h ⊢
  rw [show Tryz.prog.globalNamed "internal/strconv.uint64pow10" = some 0 from by kernel_rfl] at h ⊢
  simp only [Option.bind_some] at h ⊢
  rw [hk.block 0 hlt hs]
  exact h
theorem Pw.below {w w' : World} (h : Pw w) (hb : Below w.heap.size w w') : Pw w' := h.keep (S := fun _ => False) (Keep.ofBelow hb) (fun h => h)

theorem grow_below (w : World) (k : Nat) (os : Array Obj) : Below w.heap.size w (grow (w.drewN k) os) := by
  refine ⟨rfl, rfl, rfl, ?_, fun j hj => ?_⟩
  · show w.heap.size ≤ (w.heap ++ os).size
    rw [Array.size_append]; omega
  · show (w.heap ++ os)[j]? = w.heap[j]?
    exact Array.getElem?_append_left hj
theorem itoa_any (N : Nat) (hN : N ≤ 9223372036854775807) (w : World) (hP : Pw w) : Calls Tryz.prog 140 #[.int .i64 (N : Int)] w fun e w' => e = .returned (.string ⟨(Lib.decDigits N).toArray⟩) ∧ Below w.heap.size w w' := by
  have h := Any.strconv_Itoa Tryz.laysM171 (N : Int) (by omega) (by omega) w hP
  rw [Lib.itoa_nonneg] at h
  refine h.mono ?_
  rintro e w' ⟨rfl, k, os, rfl⟩
  exact ⟨rfl, grow_below _ _ _⟩

/-- The new block's bytes are a row of zeros. -/
theorem holds_zero0 (w : World) (T : TypeId) (nd : Nat) (hs : nd ≤ 24) : Holds (fun (b : UInt8) => Value.int .u8 (b.toNat : Int)) (w.alloc (.cells Lib.zeros24 T)) w.heap.size 0 (Array.replicate nd (0 : UInt8)) := fun j hj => by
  have hj' : j < nd := by simpa using hj
  refine ⟨?_, World.frozen?_alloc_new _ _ _ _⟩
  rw [World.cell?_alloc_new, Lib.zeros24_at _ (by omega), getElem!_pos _ j hj]
  simp
theorem fin_pos0 (w : World) (o : Obj) (dk : Array UInt8) (k : Nat) : ∃ os, (putRow (fun (b : UInt8) => Value.int .u8 (b.toNat : Int)) (w.alloc o) w.heap.size 0 dk).drewN k = grow (w.drewN k) os := by
  rw [alloc_eq_grow]
  obtain ⟨os', _, e⟩ := putRow_grow_new (fun (b : UInt8) => Value.int .u8 (b.toNat : Int)) w #[o] w.heap.size 0 dk (Nat.le_refl _)
  exact ⟨os', by rw [e]; rfl⟩

set_option maxHeartbeats 6400000 in
set_option maxRecDepth 100000 in
theorem ifmt_any (u : Nat) (hu64 : u < 18446744073709551616) (w : World) (hP : Pw w) : Calls Tryz.prog 158 #[.int .u64 (u : Int), .int .i64 10] w fun e w' => e = .returned (.string ⟨(Lib.decDigits u).toArray⟩) ∧ Below w.heap.size w w' := by
  have hsm := fun (h : u < 100) => Any.internal_strconv_small Tryz.lays283 u h
  have hnd := fun (h : 1 ≤ u) w hP => Any.internal_strconv_numDigits Tryz.laysM284 u h hu64 w hP
  by_cases hs : u < 100
  · have hsm := hsm hs w
    have hlt : (u : Int) < 100 := by omega
    have hcv : IntKind.i64.wrap (u : Int) = (u : Int) := by rw [IntKind.wrap_i64]; omega
    clear hnd
    go_enter Tryz.func158, Tryz.ntmps158
    go_wp2_with (go_at_call 170; refine hsm.mono ?_; rintro e w' ⟨rfl, rfl⟩)
    go_ret
    exact ⟨rfl, Below.refl _ _⟩
  · have hu1 : 1 ≤ u := by omega
    have hnlt : ¬ (u : Int) < 100 := by omega
    have hnd20 : Lib.nDigits u ≤ 20 := by have := Lib.numDigits_eq u hu1 hu64; split at this <;> omega
    have hb3 : Lib.nDigits u ≤ 24 := by omega
    have hal : Tryz.prog.arrayLen 184 = 24 := by kernel_rfl
    obtain ⟨N, HN⟩ : ∃ N, Hid (Lib.nDigits u = N) := ⟨_, rfl⟩
    rw [HN.out] at hb3 hnd20
    have hsl1 : ∀ W, (Instr.sliceAt 184 (.pointer (some ⟨w.heap.size, 0, none⟩)) none (some (.int .i64 (N : Int))) none).run Tryz.prog W = .ok (.slice (some ⟨w.heap.size, 0, none⟩) N 24) W := fun W => by
      rw [run_sliceAt_array_h W 184 ⟨w.heap.size, 0, none⟩ (by simp [Program.arrayLen, Program.elem, Tryz.underlying184]) .i64 (N : Int) (by omega) (by rw [hal]; omega)]
      go_simp
    have hH0 := holds_zero0 w 184 N (by omega)
    have hfmt := Any.internal_strconv_formatBase10 Tryz.lays285 w.heap.size 0 24 u (Array.replicate N 0) (w.alloc (.cells Lib.zeros24 184)) hH0 (by rw [Array.size_replicate, ← HN.out]; exact Lib.lt_pow_nDigits u) hu64 (by rw [Array.size_replicate]; omega)
    rw [Array.size_replicate] at hfmt
    have HH0 := Lib.hid hH0
    have hnd2 := hnd hu1 (w.alloc (.cells Lib.zeros24 184)) (Lib.tabIs_alloc hP _)
    rw [HN.out] at hnd2
    clear hH0 hal hnd hsm
    go_enter Tryz.func158, Tryz.ntmps158
    go_upto_region 6 with (first
      | (go_at_call 171; refine hnd2.mono ?_; rintro e w' ⟨rfl, rfl⟩))
    go_wp2_with (first
      | (go_at_call 172; refine hfmt.mono ?_; rintro e w' ⟨rfl, k, v', dk, rfl, hF⟩
         have hcv : (convert 29 9 (.slice (some ⟨w.heap.size, 0, none⟩) N 24)).run Tryz.prog ((putRow (fun (b : UInt8) => Value.int .u8 (b.toNat : Int)) (w.alloc (.cells Lib.zeros24 184)) w.heap.size 0 dk).drewN k) = .ok (.string ⟨(Lib.decDigits u).toArray⟩) ((putRow (fun (b : UInt8) => Value.int .u8 (b.toNat : Int)) (w.alloc (.cells Lib.zeros24 184)) w.heap.size 0 dk).drewN k) := (by
           have hFu : Lib.FmtInv (Lib.nDigits u) u 0 v' dk := by rw [HN.out]; exact hF
           have h := run_convert_bytes_back (P := Tryz.prog) ((putRow (fun (b : UInt8) => Value.int .u8 (b.toNat : Int)) (w.alloc (.cells Lib.zeros24 184)) w.heap.size 0 dk).drewN k) 29 9 5 ⟨w.heap.size, 0, none⟩ 24 (Lib.decDigits u) Tryz.underlying29 Tryz.underlying5 Tryz.underlying9 (fun j hj => by
             rw [Lib.row_is_numeral hFu j hj, Lib.add_plain, World.cell?_drewN]
             exact cell?_putRow (fun (b : UInt8) => Value.int .u8 (b.toNat : Int)) _ w.heap.size 0 _ dk HH0.out (by rw [hF.size, Array.size_replicate]) j (by rw [hF.size]; rw [Lib.decDigits_length, HN.out] at hj; exact hj))
           rw [Lib.decDigits_length, HN.out] at h
           exact h)))
    go_ret
    obtain ⟨os, eo⟩ := fin_pos0 w (.cells Lib.zeros24 184) dk k
    refine ⟨rfl, ?_⟩
    rw [eo]
    exact grow_below _ _ _
theorem fmt_any (u : Nat) (hu64 : u < 18446744073709551616) (w : World) (hP : Pw w) : Calls Tryz.prog 139 #[.int .u64 (u : Int), .int .i64 10] w fun e w' => e = .returned (.string ⟨(Lib.decDigits u).toArray⟩) ∧ Below w.heap.size w w' := by
  have h := ifmt_any u hu64 w hP
  obtain ⟨T, HT⟩ : ∃ T, (⟨(Lib.decDigits u).toArray⟩ : ByteArray) = T := ⟨_, rfl⟩
  rw [HT] at h ⊢
  go_enter Tryz.func139, Tryz.ntmps139
  go_wp2_with (go_at_call 158; refine h.mono ?_; rintro e w' ⟨rfl, hb⟩)
  go_ret
  exact ⟨rfl, hb⟩

/-- The name of a segment. -/
def segN (g i : Nat) : Nm := ⟨([108, 111, 103, 45] ++ Lib.decDigits g ++ [45] ++ Lib.decDigits i).toArray⟩
theorem dig_len20 (u : Nat) (h : u < 18446744073709551616) : (Lib.decDigits u).length ≤ 20 := by
  rw [Lib.decDigits_length]
  by_cases h1 : 1 ≤ u
  · have := Lib.numDigits_eq u h1 h; split at this <;> omega
  · have : u = 0 := by omega
    subst this
    decide +kernel
theorem add_bytes (a b : List UInt8) : ((⟨a.toArray⟩ : ByteArray) ++ (⟨b.toArray⟩ : ByteArray)) = ⟨(a ++ b).toArray⟩ := by
  apply ByteArray.ext
  rw [ByteArray.data_append]
  simp
set_option maxHeartbeats 1000000 in
theorem segment_any (b off g i : Nat) (hg : g < 18446744073709551616) (hi : i ≤ 9223372036854775807) (w : World) (hP : Pw w) (hc : w.cell? ⟨b, off, none⟩ = some (.int .u64 (g : Int))) :
    Calls Tryz.prog 103 #[.pointer (some ⟨b, off, none⟩), .int .i64 (i : Int)] w fun e w' => e = .returned (.string (segN g i)) ∧ Below w.heap.size w w' := by
  have h1 := fmt_any g hg w hP
  have h2 := fun w hP => itoa_any i hi w hP
  have l1 := dig_len20 g hg
  have l2 := dig_len20 i (by omega)
  obtain ⟨Dg, HG⟩ : ∃ D, Hid (Lib.decDigits g = D) := ⟨_, rfl⟩
  obtain ⟨Di, HI⟩ : ∃ D, Hid (Lib.decDigits i = D) := ⟨_, rfl⟩
  have hs : segN g i = ⟨([108, 111, 103, 45] ++ Dg ++ [45] ++ Di).toArray⟩ := by unfold segN; rw [HG.out, HI.out]
  rw [HG.out] at h1 l1
  rw [HI.out] at l2
  simp only [HI.out] at h2
  rw [hs]
  clear hs
  obtain ⟨T1, HT1⟩ : ∃ T, Hid ((⟨Dg.toArray⟩ : ByteArray) = T) := ⟨_, rfl⟩
  obtain ⟨T2, HT2⟩ : ∃ T, Hid ((⟨Di.toArray⟩ : ByteArray) = T) := ⟨_, rfl⟩
  have s1 : T1.size ≤ 20 := by rw [← HT1.out]; show Dg.toArray.size ≤ 20; simpa using l1
  have s2 : T2.size ≤ 20 := by rw [← HT2.out]; show Di.toArray.size ≤ 20; simpa using l2
  have HE : Hid (((⟨#[108, 111, 103, 45]⟩ : ByteArray) ++ T1) ++ (⟨#[45]⟩ : ByteArray) ++ T2 = ⟨([108, 111, 103, 45] ++ Dg ++ [45] ++ Di).toArray⟩) := by
    show _ = _
    rw [← HT1.out, ← HT2.out]
    have e1 : (⟨#[108, 111, 103, 45]⟩ : ByteArray) = ⟨([108, 111, 103, 45] : List UInt8).toArray⟩ := rfl
    have e2 : (⟨#[45]⟩ : ByteArray) = ⟨([45] : List UInt8).toArray⟩ := rfl
    rw [e1, e2, add_bytes, add_bytes, add_bytes]
  rw [HT1.out] at h1
  simp only [HT2.out] at h2
  rw [← HE.out]
  clear l1 l2 HE
  go_enter Tryz.func103, Tryz.ntmps103
  go_wp2_with (first
    | (go_at_call 139; refine h1.mono ?_; rintro e w1 ⟨rfl, hb1⟩)
    | (go_at_call 140; refine (h2 _ (hP.below hb1)).mono ?_; rintro e w2 ⟨rfl, hb2⟩))
  go_ret
  exact ⟨rfl, hb1.trans (hb2.mono hb1.size)⟩

/-- The table lies below all that the log has. -/
structure Pf (w : World) (F : Nat → Prop) (lb : Nat) : Prop where
  pw : Pw w
  fl : ∀ i, F i → 0 < i
  ll : 0 < lb
theorem Pf.next {w w' : World} {F F' : Nat → Prop} {lb : Nat} (h : Pf w F lb) (hk : Keep (fun i => F i ∨ i = lb) w w') (hF : ∀ i, F' i → F i ∨ w.heap.size ≤ i) : Pf w' F' lb := by
  refine ⟨h.pw.keep hk (fun hs => ?_), fun i hi => ?_, h.ll⟩
  · rcases hs with hs | hs
    · have := h.fl _ hs; omega
    · have := h.ll; omega
  · rcases hF i hi with h1 | h1
    · exact h.fl i h1
    · have := h.pw.at; omega
theorem Pf.below {w w' : World} {F : Nat → Prop} {lb : Nat} (h : Pf w F lb) (hb : Below w.heap.size w w') : Pf w' F lb := ⟨h.pw.below hb, h.fl, h.ll⟩

end Go.Proofs.YtikkieaokfailaaGreatDoor

/- What the rows' list gives: Go's table of powers of ten. -/
namespace Go.Proofs.YtikkieaokfailaaGreatDoor
open Go.ChangeShapes Go.WideShapes Go.ChangeAt Go.RowKit

theorem gPw : Tryz.prog.globalNamed "internal/strconv.uint64pow10" = some 0 := by kernel_rfl
theorem gPwType : (Tryz.prog.globals[0]?).map (·.type) = some 199 := by kernel_rfl
theorem cellsPw : Tryz.prog.cellsOf 199 = 20 := by kernel_rfl
theorem cellsU64 : Tryz.prog.cellsOf 88 = 1 := by kernel_rfl
theorem pw_eq : (Rows.laid_internal_strconv_uint64pow10 : DataW Unit) = Lib.tabData .u64 Lib.pow10Tab := rfl
theorem pw_in {enc : TypeId × Value → Unit} {W : World} {base : Nat} {sp : Nat → Bool} {held : Bool} {cs : Array Value} {fuel : Nat} {p : List MemPlace} (hv : W.var? Tryz.prog "internal/strconv.uint64pow10" = some cs) (hd : DataW.trod enc Tryz.prog W base sp held fuel 199 cs.toList = some (Rows.laid_internal_strconv_uint64pow10, p)) : Pw W := by
  rw [pw_eq] at hd
  have hc := Lib.cells_of_tab Tryz.underlying199 Tryz.underlying88 cellsU64 cellsPw hd
  unfold Pw Lib.TabIs
  rw [hv, ← hc]
theorem pw_of {W : World} (h : laidMetH Tryz.prog [("math/bits.deBruijn32tab", Rows.laid_math_bits_deBruijn32tab), ("math/bits.deBruijn64tab", Rows.laid_math_bits_deBruijn64tab), ("internal/strconv.uint64pow10", Rows.laid_internal_strconv_uint64pow10)] W) : Pw W := by
  have h' : laidMet Tryz.prog [("math/bits.deBruijn32tab", Rows.laid_math_bits_deBruijn32tab), ("math/bits.deBruijn64tab", Rows.laid_math_bits_deBruijn64tab), ("internal/strconv.uint64pow10", Rows.laid_internal_strconv_uint64pow10)] W := h
  obtain ⟨ps, ⟨g1, t1, cs1, fuel1, p1, q1, hg1, ht1, hv1, hd1, hr1, _⟩, _⟩ := h'
  obtain ⟨g2, t2, cs2, fuel2, p2, q2, hg2, ht2, hv2, hd2, hr2, _⟩ := hr1
  obtain ⟨g3, t3, cs3, fuel3, p3, q3, hg3, ht3, hv3, hd3, _, _⟩ := hr2
  obtain rfl := Option.some.inj (gPw.symm.trans hg3)
  obtain rfl := Option.some.inj (gPwType.symm.trans ht3)
  exact pw_in hv3 hd3

end Go.Proofs.YtikkieaokfailaaGreatDoor

/- A region that draws its order, in whatever order: each operation's answer is told by a fact that lasts, so that no order counts. -/
namespace Go.Proofs.YtikkieaokfailaaGreatDoor
open Go.RowKit

section
variable {P : Program} {ops : Array Oper} {Q : Exit → Act → World → Prop}

/-- The slots that operations of U write. -/
def uDst (ops : Array Oper) (U : List Nat) : List Nat := U.filterMap fun i => (ops[i]?).bind (·.dst)
/-- What the law asks of the region's text: U's operations wait for elder ones of U alone and write slots of their own; every other one waits for all of U. -/
def aoOk (ops : Array Oper) (U : List Nat) : Bool :=
  U.all (fun u => match ops[u]? with
    | some o => o.dst.isSome && o.after.all (fun e => !Region.binds .any e || (decide (e.on < u) && U.contains e.on))
    | none => false) &&
  (List.range ops.size).all (fun t => U.contains t || (match ops[t]? with
    | some o => U.all (fun u => o.after.any (fun e => Region.binds .any e && e.on == u))
    | none => true)) &&
  decide (uDst ops U).Nodup && decide U.Nodup

/-- A fact that lasts while memory only grows. -/
def Lasts (g : Value → World → Prop) : Prop := ∀ v w w', Below w.heap.size w w' → g v w → g v w'

/-- So far: U's listed operations have answered as their facts say; all other slots are as they were. -/
structure AO (ops : Array Oper) (U : List Nat) (G : Nat → Value → World → Prop) (W : World) (tm0 : Array Value) (df : List Deferred) (listed : Array Bool) (a : Act) (w : World) : Prop where
  s : Below W.heap.size W w
  df : a.defers = df
  sz : a.tmps.size = tm0.size
  same : ∀ d, d ∉ uDst ops U → a.tmps.getD d undef = tm0.getD d undef
  got : ∀ i o d, listed.getD i false = true → i ∈ U → ops[i]? = some o → o.dst = some d → G i (a.tmps.getD d undef) w

/-- What operation i owes: in any frame and world with its facts ahead. -/
def Ob (P : Program) (ops : Array Oper) (Q : Exit → Act → World → Prop) (U : List Nat) (G : Nat → Value → World → Prop) (W : World) (tm0 : Array Value) (df : List Deferred) (i : Nat) : Prop :=
  ∀ (tm : Array Value) (w : World), Below W.heap.size W w → tm.size = tm0.size → (∀ d, d ∉ uDst ops U → tm.getD d undef = tm0.getD d undef) →
    (∀ j o d, j ∈ U → ops[j]? = some o → o.dst = some d → (∃ oi, ops[i]? = some oi ∧ oi.after.any (fun e => Region.binds .any e && e.on == j) = true) → G j (tm.getD d undef) w) →
    ∃ o d, ops[i]? = some o ∧ o.dst = some d ∧ wpOp P ops Q i (fun a' w' => ∃ v, a' = { tmps := tm.setIfInBounds d v, defers := df } ∧ d < tm.size ∧ G i v w' ∧ Below w.heap.size w w') { tmps := tm, defers := df } w

def AllIn (U : List Nat) (p : Nat → Prop) : Prop := ∀ i ∈ U, p i
theorem allIn_nil {p : Nat → Prop} : AllIn [] p := fun _ h => by cases h
theorem allIn_cons {p : Nat → Prop} {i : Nat} {U : List Nat} (h : p i) (t : AllIn U p) : AllIn (i :: U) p := fun j hj => by
  rcases List.mem_cons.1 hj with e | e
  · subst e; exact h
  · exact t j e

theorem getD_set_self {l : Array Bool} {i : Nat} (h : i < l.size) : (l.setIfInBounds i true).getD i false = true := by simp [Array.getD, h]

theorem val_set_ne {tm : Array Value} {d d' : Nat} {v u : Value} (h : d ≠ d') : (tm.setIfInBounds d v).getD d' u = tm.getD d' u := by
  rw [Array.getD_eq_getD_getElem?, Array.getD_eq_getD_getElem?, Array.getElem?_setIfInBounds_ne h]
def unl (listed : Array Bool) (u : Nat) : Bool := !listed.getD u false
theorem unl_set {listed : Array Bool} {i : Nat} (hi : i < listed.size) (u : Nat) : unl (listed.setIfInBounds i true) u = (unl listed u && decide (u ≠ i)) := by
  unfold unl
  by_cases e : u = i
  · subst e; rw [getD_set_self hi]; simp
  · rw [getD_set_ne false (fun h => e h.symm)]; simp [e]
theorem cnt_gone (p : Nat → Bool) (i : Nat) : ∀ U : List Nat, i ∉ U → U.countP (fun u => p u && decide (u ≠ i)) = U.countP p
  | [], _ => rfl
  | u :: U, h => by
    have h1 : u ≠ i := fun e => h (by simp [e])
    have h2 : i ∉ U := fun e => h (by simp [e])
    rw [List.countP_cons, List.countP_cons, cnt_gone p i U h2]
    simp [h1]
theorem cnt_less (p : Nat → Bool) (i : Nat) (hp : p i = true) : ∀ U : List Nat, U.Nodup → i ∈ U → U.countP (fun u => p u && decide (u ≠ i)) + 1 = U.countP p
  | [], _, h => by cases h
  | u :: U, hd, h => by
    rw [List.nodup_cons] at hd
    rw [List.countP_cons, List.countP_cons]
    by_cases e : u = i
    · subst e
      rw [cnt_gone p u U hd.1]
      simp [hp]
    · have h2 : i ∈ U := (List.mem_cons.1 h).resolve_left (fun q => e q.symm)
      have ih := cnt_less p i hp U hd.2 h2
      have hb : (p u && decide (u ≠ i)) = p u := by simp [e]
      simp only [hb]
      omega

theorem ao_parts {U : List Nat} (h : aoOk ops U = true) : (∀ u ∈ U, ∃ o d, ops[u]? = some o ∧ o.dst = some d ∧ ∀ e ∈ o.after, Region.binds .any e = true → e.on < u ∧ e.on ∈ U) ∧
    (∀ t o, ops[t]? = some o → t ∉ U → ∀ u ∈ U, ∃ e ∈ o.after, Region.binds .any e = true ∧ e.on = u) ∧ (uDst ops U).Nodup ∧ U.Nodup := by
  unfold aoOk at h
  rw [Bool.and_eq_true, Bool.and_eq_true, Bool.and_eq_true] at h
  obtain ⟨⟨⟨h1, h2⟩, h3⟩, h4⟩ := h
  refine ⟨fun u hu => ?_, fun t o ho ht u hu => ?_, of_decide_eq_true h3, of_decide_eq_true h4⟩
  · have := List.all_eq_true.1 h1 u hu
    cases ho : ops[u]? with
    | none => simp [ho] at this
    | some o =>
      simp only [ho, Bool.and_eq_true] at this
      obtain ⟨d, hd⟩ := Option.isSome_iff_exists.1 this.1
      refine ⟨o, d, rfl, hd, fun e he hb => ?_⟩
      have h5 := Array.all_eq_true'.1 this.2 e he
      simp only [hb, Bool.not_true, Bool.false_or, Bool.and_eq_true, decide_eq_true_eq] at h5
      exact ⟨h5.1, List.contains_iff_mem.1 h5.2⟩
  · have hlt : t < ops.size := (Array.getElem?_eq_some_iff.1 ho).1
    have := List.all_eq_true.1 h2 t (List.mem_range.2 hlt)
    rw [Bool.or_eq_true] at this
    rcases this with q | q
    · exact absurd (List.contains_iff_mem.1 q) ht
    · rw [ho] at q
      have h5 := List.all_eq_true.1 q u hu
      obtain ⟨e, he, hb⟩ := Array.any_eq_true'.1 h5
      simp only [Bool.and_eq_true, beq_iff_eq] at hb
      exact ⟨e, he, hb.1, hb.2⟩

theorem mem_uDst {U : List Nat} {i : Nat} {o : Oper} {d : Nat} (hi : i ∈ U) (ho : ops[i]? = some o) (hd : o.dst = some d) : d ∈ uDst ops U :=
  List.mem_filterMap.2 ⟨i, hi, by rw [ho]; exact hd⟩
/-- Two operations of U do not write one slot. -/
theorem dst_ne : ∀ {U : List Nat}, (uDst ops U).Nodup → ∀ {i j : Nat} {oi oj : Oper} {d : Nat}, i ∈ U → j ∈ U → ops[i]? = some oi → ops[j]? = some oj → oi.dst = some d → oj.dst = some d → i = j
  | [], _, _, _, _, _, _, h, _, _, _, _, _ => by cases h
  | u :: U, hn, i, j, oi, oj, d, hi, hj, hoi, hoj, hdi, hdj => by
    have hn' : (uDst ops U).Nodup ∧ ∀ d', (ops[u]?).bind (·.dst) = some d' → d' ∉ uDst ops U := by
      unfold uDst at hn ⊢
      rw [List.filterMap_cons] at hn
      cases hq : (ops[u]?).bind (·.dst) with
      | none => rw [hq] at hn; exact ⟨hn, fun _ h => by cases h⟩
      | some d' =>
        rw [hq] at hn
        rw [List.nodup_cons] at hn
        exact ⟨hn.2, fun d'' h => by cases h; exact hn.1⟩
    rcases List.mem_cons.1 hi with e | e
    · rcases List.mem_cons.1 hj with e' | e'
      · rw [e, e']
      · subst e
        exact absurd (mem_uDst e' hoj hdj) (hn'.2 d (by rw [hoi]; exact hdi))
    · rcases List.mem_cons.1 hj with e' | e'
      · subst e'
        exact absurd (mem_uDst e hoi hdi) (hn'.2 d (by rw [hoj]; exact hdj))
      · exact dst_ne hn'.1 e e' hoi hoj hdi hdj

/-- All of U listed, and nothing else. -/
def listU (n : Nat) (U : List Nat) : Array Bool := ((List.range n).map U.contains).toArray

theorem wpAny_facts {U : List Nat} {G : Nat → Value → World → Prop} {W : World} {tm0 : Array Value} {df : List Deferred} {f' : Nat} (hok : aoOk ops U = true) (hG : ∀ i, Lasts (G i)) (hob : AllIn U (Ob P ops Q U G W tm0 df))
    (hfin : ∀ a w, AO ops U G W tm0 df (listU ops.size U) a w → wpAnyT P .any ops Q (fun _ => True) [] f' (listU ops.size U) a w) :
    ∀ (m : Nat) (listed : Array Bool) (a : Act) (w : World), listed.size = ops.size → (∀ i, listed.getD i false = true → i ∈ U) → U.countP (unl listed) = m → AO ops U G W tm0 df listed a w →
      wpAnyT P .any ops Q (fun _ => True) [] (m + f') listed a w := by
  obtain ⟨hdep, hlate, hnd, hUn⟩ := ao_parts hok
  intro m
  induction m with
  | zero =>
    intro listed a w hsz hsub hcnt hA
    have hall : ∀ u ∈ U, listed.getD u false = true := fun u hu => by
      have := List.countP_eq_zero.1 hcnt u hu
      simpa [unl] using this
    have e : listed = listU ops.size U := by
      refine Array.ext (by rw [hsz]; simp [listU]) fun i h1 h2 => ?_
      have hg : listed.getD i false = listed[i] := by simp [Array.getD, h1]
      simp only [listU, List.getElem_toArray, List.getElem_map, List.getElem_range]
      by_cases hu : i ∈ U
      · rw [← hg, hall i hu]; exact (List.contains_iff_mem.2 hu).symm
      · have : listed[i] = false := by
          cases hq : listed[i] with
          | false => rfl
          | true => exact absurd (hsub i (by rw [hg]; exact hq)) hu
        rw [this]
        cases hq : U.contains i with
        | false => rfl
        | true => exact absurd (List.contains_iff_mem.1 hq) hu
    rw [Nat.zero_add]
    subst e
    exact hfin a w hA
  | succ m ih =>
    intro listed a w hsz hsub hcnt hA
    have hone : ∃ u ∈ U, listed.getD u false = false := by
      have : 0 < U.countP (unl listed) := by omega
      obtain ⟨u, hu, hp⟩ := List.countP_pos_iff.1 this
      exact ⟨u, hu, by simpa [unl] using hp⟩
    have hltU : ∀ u ∈ U, u < listed.size := fun u hu => by
      obtain ⟨o, d, ho, _⟩ := hdep u hu
      rw [hsz]; exact (Array.getElem?_eq_some_iff.1 ho).1
    have htf : ∀ u, u < listed.size → listed.getD u true = listed.getD u false := fun u hu => by simp [Array.getD, hu]
    have hready : ∀ k u, u ≤ k → u ∈ U → listed.getD u false = false → Region.ready .any ops listed ≠ [] := by
      intro k
      induction k with
      | zero =>
        intro u hk hu hf hr
        obtain ⟨o, d, ho, hd, hde⟩ := hdep u hu
        have : u ∈ Region.ready .any ops listed := mem_ready.2 ⟨by rw [htf u (hltU u hu)]; exact hf, o, ho, fun e he hb => by have := (hde e he hb).1; omega⟩
        rw [hr] at this; cases this
      | succ k ihk =>
        intro u hk hu hf hr
        obtain ⟨o, d, ho, hd, hde⟩ := hdep u hu
        have : u ∈ Region.ready .any ops listed := mem_ready.2 ⟨by rw [htf u (hltU u hu)]; exact hf, o, ho, fun e he hb => by
          cases hq : listed.getD e.on false with
          | true => rfl
          | false => exact absurd hr (ihk e.on (by have := (hde e he hb).1; omega) (hde e he hb).2 hq)⟩
        rw [hr] at this; cases this
    rw [show m + 1 + f' = (m + f') + 1 from by omega]
    refine ⟨fun hr => ?_, fun i hi => ?_⟩
    · obtain ⟨u, hu, hf⟩ := hone
      exact absurd hr (hready u u (Nat.le_refl _) hu hf)
    · obtain ⟨hiun, oi, hoi, hiall⟩ := mem_ready.1 hi
      have hiU : i ∈ U := by
        refine Classical.byContradiction fun hn => ?_
        obtain ⟨u, hu, hf⟩ := hone
        obtain ⟨e, he, hb, hon⟩ := hlate i oi hoi hn u hu
        have := hiall e he hb
        rw [hon, hf] at this; cases this
      have hif : listed.getD i false = false := by rw [← htf i (hltU i hiU)]; exact hiun
      obtain ⟨atm, adf⟩ := a
      have hadf : adf = df := hA.df
      subst hadf
      obtain ⟨o, d, ho, hd, hwp⟩ := hob i hiU atm w hA.s hA.sz hA.same (fun j o d hj ho hd hdj => by
        obtain ⟨oi', hoi', hany⟩ := hdj
        rw [hoi] at hoi'
        cases hoi'
        obtain ⟨e, he, hb⟩ := Array.any_eq_true'.1 hany
        simp only [Bool.and_eq_true, beq_iff_eq] at hb
        exact hA.got j o d (by rw [← hb.2]; exact hiall e he hb.1) hj ho hd)
      refine wpOp_mono (fun a' w' hk => ?_) hwp
      obtain ⟨v, rfl, hdl, hgv, hbw⟩ := hk
      refine ⟨fun _ => trivial, ih _ _ _ (by rw [Array.size_setIfInBounds]; exact hsz) (fun j hj => ?_) ?_ ⟨?_, rfl, ?_, fun d' hd' => ?_, fun j oj d' hj hjU hoj hdj => ?_⟩⟩
      · by_cases e : i = j
        · subst e; exact hiU
        · rw [getD_set_ne false e] at hj; exact hsub j hj
      · have h1 : (unl (listed.setIfInBounds i true)) = fun u => unl listed u && decide (u ≠ i) := funext fun u => unl_set (hltU i hiU) u
        rw [h1]
        have := cnt_less (unl listed) i (by simp [unl, hif]) U hUn hiU
        omega
      · exact hA.s.trans (hbw.mono hA.s.size)
      · rw [Array.size_setIfInBounds]; exact hA.sz
      · have hne : d ≠ d' := fun e => hd' (by rw [← e]; exact mem_uDst hiU ho hd)
        exact (val_set_ne hne).trans (hA.same d' hd')
      · by_cases e : i = j
        · subst e
          rw [ho] at hoj
          cases hoj
          rw [hd] at hdj
          cases hdj
          have : (atm.setIfInBounds d v).getD d undef = v := by simp [Array.getD, hdl]
          rw [this]; exact hgv
        · rw [getD_set_ne false e] at hj
          have hne : d ≠ d' := fun e' => e (dst_ne hnd hiU hjU ho hoj hd (by rw [e']; exact hdj))
          have hg := hG j _ _ _ hbw (hA.got j oj d' hj hjU hoj hdj)
          have hs : (atm.setIfInBounds d v).getD d' undef = atm.getD d' undef := val_set_ne hne
          rw [hs]; exact hg

/-- The law: U's operations in any order, then the rest. -/
theorem wp_region_facts {id : Nat} {w : World} {tm0 : Array Value} {df : List Deferred} (U : List Nat) (G : Nat → Value → World → Prop) (n f' : Nat) (hm : P.follows .mixedOrders = true) (hn : ops.size = n) (hlen : U.length + f' = n) (hok : aoOk ops U = true) (hG : ∀ i, Lasts (G i))
    (hob : AllIn U (Ob P ops Q U G w.drew tm0 df))
    (hfin : ∀ a w', AO ops U G w.drew tm0 df (listU n U) a w' → LX P ops Q (fun _ => True) [] f' (listU n U) a w') : (Code.region id ops true).wp P Q { tmps := tm0, defers := df } w := by
  subst hn
  refine wp_region_any hm (wpAny_of_late (S := fun _ => True) (T := []) _ _ _ _ ?_)
  suffices key : wpAnyT P .any ops Q (fun _ => True) [] (U.length + f') (Array.replicate ops.size false) { tmps := tm0, defers := df } w.drew by rw [hlen] at key; exact key
  refine wpAny_facts hok hG hob (fun a w' h => (hfin a w' h).out) U.length (Array.replicate ops.size false) { tmps := tm0, defers := df } w.drew (by simp) (fun i hi => ?_) ?_ ⟨Below.refl _ _, rfl, rfl, fun d _ => rfl, fun i o d hi => ?_⟩
  · exfalso
    simp only [Array.getD, Array.size_replicate, Array.getInternal_eq_getElem] at hi
    split at hi
    · simp at hi
    · cases hi
  · rw [List.countP_eq_length]
    intro u _
    simp only [unl, Array.getD, Array.size_replicate]
    split <;> simp
  · exfalso
    simp only [Array.getD, Array.size_replicate, Array.getInternal_eq_getElem] at hi
    split at hi
    · simp at hi
    · cases hi

/-! ### What an operation owes, by its kind -/
variable {U : List Nat} {G : Nat → Value → World → Prop} {W : World} {tm0 : Array Value} {df : List Deferred}

/-- The facts ahead of operation i. -/
structure Ahd (ops : Array Oper) (U : List Nat) (G : Nat → Value → World → Prop) (W : World) (tm0 : Array Value) (i : Nat) (tm : Array Value) (w : World) : Prop where
  s : Below W.heap.size W w
  sz : tm.size = tm0.size
  same : ∀ d, d ∉ uDst ops U → tm.getD d undef = tm0.getD d undef
  dep : ∀ j o d, j ∈ U → ops[j]? = some o → o.dst = some d → (∃ oi, ops[i]? = some oi ∧ oi.after.any (fun e => Region.binds .any e && e.on == j) = true) → G j (tm.getD d undef) w

theorem ob_val (i : Nat) {o : Oper} {d : Tmp} (ho : ops[i]? = some o) (hd : o.dst = some d) (hdl : d < tm0.size)
    (h : ∀ tm w, Ahd ops U G W tm0 i tm w → Region.wanted o (yielded ops tm) = true ∧ ∃ v w', (execOp (Act.eval { tmps := tm, defers := df }) o).run P w = .ok (.value v) w' ∧ G i v w' ∧ Below w.heap.size w w') : Ob P ops Q U G W tm0 df i := by
  intro tm w hS hsz hsame hdep
  obtain ⟨hw, v, w', hrun, hg, hb⟩ := h tm w ⟨hS, hsz, hsame, hdep⟩
  refine ⟨o, d, ho, hd, ?_⟩
  unfold wpOp
  rw [ho]
  simp only
  rw [if_pos hw]
  refine .inl ?_
  unfold Oper.wp
  rw [hrun]
  refine ⟨v, ?_, by rw [hsz]; exact hdl, hg, hb⟩
  show Act.put { tmps := tm, defers := df } o.dst v = _
  rw [hd, put_some]

theorem ob_call (i : Nat) {o : Oper} {d : Tmp} (ho : ops[i]? = some o) (hd : o.dst = some d) (hdl : d < tm0.size)
    (h : ∀ tm w, Ahd ops U G W tm0 i tm w → Region.wanted o (yielded ops tm) = true ∧ ∃ f args, (execOp (Act.eval { tmps := tm, defers := df }) o).run P w = .ok (.enter f args) w ∧ Calls P f args w fun e w' => ∃ v, e = .returned v ∧ G i v w' ∧ Below w.heap.size w w') : Ob P ops Q U G W tm0 df i := by
  intro tm w hS hsz hsame hdep
  obtain ⟨hw, f, args, hrun, hc⟩ := h tm w ⟨hS, hsz, hsame, hdep⟩
  refine ⟨o, d, ho, hd, ?_⟩
  unfold wpOp
  rw [ho]
  simp only
  rw [if_pos hw]
  refine .inl ?_
  unfold Oper.wp
  rw [hrun, Oper.upon_enter]
  refine hc.mono ?_
  rintro e w' ⟨v, rfl, hg, hb⟩
  refine ⟨v, ?_, by rw [hsz]; exact hdl, hg, hb⟩
  show Act.put { tmps := tm, defers := df } o.dst v = _
  rw [hd, put_some]

/-- A frame, slot by slot. -/
theorem eta_arr (tm : Array Value) (n : Nat) (h : tm.size = n) : tm = ((List.range n).map fun d => tm.getD d undef).toArray := by
  subst h
  refine Array.ext (by simp) fun i h1 h2 => ?_
  simp [Array.getD, h1]
/-- A frame is the elder one with the slots of D as they are. -/
theorem frame_sets (tm : Array Value) : ∀ (D : List Nat) (tm0 : Array Value), tm.size = tm0.size → (∀ d, d ∉ D → tm.getD d undef = tm0.getD d undef) → tm = D.foldl (fun t d => t.setIfInBounds d (tm.getD d undef)) tm0
  | [], tm0, hs, h => by
    rw [List.foldl_nil]
    refine Array.ext hs fun i h1 h2 => ?_
    have := h i (by simp)
    rw [Array.getD_eq_getD_getElem?, Array.getD_eq_getD_getElem?, Array.getElem?_eq_getElem h1, Array.getElem?_eq_getElem h2] at this
    exact this
  | d :: D, tm0, hs, h => by
    rw [List.foldl_cons]
    refine frame_sets tm D (tm0.setIfInBounds d (tm.getD d undef)) (by rw [Array.size_setIfInBounds]; exact hs) fun e he => ?_
    by_cases hde : d = e
    · subst hde
      rcases Nat.lt_or_ge d tm0.size with q | q
      · have e1 : (tm0.setIfInBounds d (tm.getD d undef)).getD d undef = tm.getD d undef := by
          generalize tm.getD d undef = v
          rw [Array.getD_eq_getD_getElem?, Array.getElem?_setIfInBounds_self_of_lt q]; rfl
        exact e1.symm
      · have e1 : (tm0.setIfInBounds d (tm.getD d undef)).getD d undef = undef := by
          generalize tm.getD d undef = v
          rw [Array.getD_eq_getD_getElem?, Array.getElem?_eq_none (by rw [Array.size_setIfInBounds]; exact q)]; rfl
        rw [e1, Array.getD_eq_getD_getElem?, Array.getElem?_eq_none (by omega)]; rfl
    · rw [val_set_ne hde]
      exact h e (by simp [Ne.symm hde, he])
/-- The guard's answer, out of its fact. -/
theorem wanted_of {o oj : Oper} {j dj : Nat} {b : Bool} {tm : Array Value} (hg : o.guard = some (j, b)) (hoj : ops[j]? = some oj) (hdj : oj.dst = some dj) (hl : dj < tm.size) (hv : tm.getD dj undef = .bool b) : Region.wanted o (yielded ops tm) = true := by
  have hq : tm[dj]? = some (.bool b) := by
    rw [Array.getElem?_eq_getElem hl]
    simpa [Array.getD, hl] using hv
  simp [Region.wanted, hg, yielded, hoj, hdj, hq]
theorem wanted_none {o : Oper} {tm : Array Value} (hg : o.guard = none) : Region.wanted o (yielded ops tm) = true := by simp [Region.wanted, hg]

def fEq (v0 : Value) : Value → World → Prop := fun v _ => v = v0
def Gl (l : List (Value → World → Prop)) (i : Nat) : Value → World → Prop := l.getD i (fun _ _ => True)
theorem lasts_eq (v0 : Value) : Lasts (fEq v0) := fun _ _ _ _ h => h
theorem lasts_list {l : List (Value → World → Prop)} (h : ∀ g ∈ l, Lasts g) (i : Nat) : Lasts (Gl l i) := by
  unfold Gl
  rcases Nat.lt_or_ge i l.length with q | q
  · rw [List.getD, List.getElem?_eq_getElem q]; exact h _ (List.getElem_mem q)
  · rw [List.getD, List.getElem?_eq_none q]; exact fun _ _ _ _ _ => trivial

end
end Go.Proofs.YtikkieaokfailaaGreatDoor

/- Facts of bytes for a region in whatever order. -/
namespace Go.Proofs.YtikkieaokfailaaGreatDoor
open Go.RowKit

/-- Bytes that read as X, at most m. -/
def fRd (X : List Int) (m : Nat) : Value → World → Prop := fun v w => ∃ a n c, v = .slice a n c ∧ n ≤ m ∧ Rd w a n c X
/-- A new empty slice of bytes. -/
def fEmp : Value → World → Prop := fun v w => ∃ g, v = .slice (some ⟨g, 0, none⟩) 0 0 ∧ w.heap[g]? = some (.cells #[] 5 (0, 0))
theorem lasts_rd (X : List Int) (m : Nat) : Lasts (fRd X m) := fun _ _ _ hb ⟨a, n, c, h1, h2, h3⟩ => ⟨a, n, c, h1, h2, h3.carry (Nat.le_refl _) hb⟩
theorem lasts_emp : Lasts fEmp := fun _ _ _ hb ⟨g, h1, h2⟩ => ⟨g, h1, (hb.block g (Array.getElem?_eq_some_iff.1 h2).1).trans h2⟩

set_option maxRecDepth 100000 in
/-- append([]byte{}, x...), at its run: nothing old is touched. -/
theorem run_appE (w : World) (ty : TypeId) (g : Nat) (hg : w.heap[g]? = some (.cells #[] 5 (0, 0))) (ab : Option Addr) (nb cb : Nat) (ys : List Int) (hR : Rd w ab nb cb ys) (hn : nb ≤ 1000000) :
    ∃ a' c' w', (Builtin.append_ #[29, 29] ty #[.slice (some ⟨g, 0, none⟩) 0 0, .slice ab nb cb]).run Tryz.prog w = .ok (.slice a' nb c') w' ∧ Rd w' a' nb c' ys ∧ Below w.heap.size w w' := by
  obtain ⟨i0, hi, hz0, hz1, hz2⟩ := info_parts Tryz.info5
  have hown : w.ownsRow 0 5 1 (.slice (some ⟨g, 0, none⟩) 0 0) 0 (bc []) := ⟨rfl, .inr ⟨g, 0, #[], rfl, Nat.zero_le _, hg, Nat.le_refl _, by unfold maxLen; omega, rfl, rfl⟩⟩
  cases ab with
  | none =>
    obtain ⟨rfl, rfl⟩ := rd_noneK hR rfl
    have hys : ys = [] := List.eq_nil_of_length_eq_zero hR.len
    subst hys
    exact ⟨_, _, w, run_append_owned_none w 0 29 ty 5 i0 1 Tryz.underlying29 hi _ 0 (bc []) hown, ⟨rfl, Nat.le_refl _, by unfold maxLen; omega, (fun e => by cases e), Bd.nil, fun _ _ j hj => by omega⟩, Below.refl _ _⟩
  | some ad =>
    by_cases h0 : nb = 0
    · subst h0
      have hys : ys = [] := List.eq_nil_of_length_eq_zero hR.len
      subst hys
      have hr2 := run_append_room (P := Tryz.prog) w 29 ty 5 i0 Tryz.underlying29 hi g 0 0 #[] hg ad 0 cb (bc []) (by simp [bc]) (fun j u hj => by simp [bc] at hj) (fun u hu => by simp [bc] at hu) (by omega) (by simp [bc])
      refine ⟨_, _, _, hr2, ⟨rfl, Nat.le_refl _, by unfold maxLen; omega, (fun e => by cases e), Bd.nil, fun _ _ j hj => by omega⟩, ?_⟩
      exact ⟨rfl, rfl, rfl, by simp, fun k hk => by
        by_cases e : k = g
        · subst e; rw [setRow_heap w k _ _ 5 (0, 0) hg, hg]; simp [bc]
        · rw [setRow_other w g k _ e]⟩
    · have hr2 := run_append_grow (P := Tryz.prog) w 29 ty 5 i0 (.int .u8 0) Tryz.underlying29 hi hz0 ⟨g, 0, none⟩ 0 0 (bc []) (by simp [bc, hz1]) (hown.cells (g := g) rfl) ad nb cb (bc ys) (by rw [bc_len, hR.len, hz1]; omega) (hR.news rfl) (by omega) (by omega) (growslice_fits (by omega) (by rw [hz2]; omega))
      obtain ⟨v', w', hrun, h2, h3, _⟩ := run_append_own (P := Tryz.prog) w 0 29 ty 5 i0 (.int .u8 0) 1 1 Tryz.underlying29 hi hz0 hz1 hz2 rfl (by decide) _ 0 (bc []) hown ad nb cb (bc ys) (by rw [bc_len, hR.len]; omega) (hR.news rfl) (bc_one ys) (by unfold maxLen; omega) (by omega) (Nat.zero_le _)
      rw [← bc_append, Nat.zero_add, List.nil_append] at h2
      obtain ⟨a', c', rfl, hr⟩ := Rd.ofOwn h2 hR.bytes
      refine ⟨a', c', w', hrun, hr, ⟨h3.os, h3.tape, h3.output, h3.size, fun k hk => ?_⟩⟩
      rw [hr2] at hrun
      injection hrun with _ e
      rw [← e]
      exact Below.heap_alloc w.drew _ _ hk

theorem exec_app {w w' : World} {o : Oper} {ρ : Operand → Value} {s x : Operand} {v u v' : Value} (ho : o.op = .call { callee := .builtin .append, args := #[s, x], argTypes := #[29, 29] }) (hs : ρ s = v) (hx : ρ x = u)
    (hrun : (Builtin.append_ #[29, 29] o.type #[v, u]).run Tryz.prog w = .ok v' w') : (execOp ρ o).run Tryz.prog w = .ok (.value v') w' := by
  simp only [execOp, ho, resolve, invoke, builtin, Sem.run_bind, Sem.run_pure, Result.andThen_ok, List.map_toArray, List.map_cons, List.map_nil, hs, hx, hrun]
theorem exec_emp {w : World} {o : Oper} {ρ : Operand → Value} (ho : o.op = .buildSlice 29 0 #[]) : (execOp ρ o).run Tryz.prog w = .ok (.value (.slice (some ⟨w.heap.size, 0, none⟩) 0 0)) (w.alloc (.cells #[] 5)) := by
  have hu := Tryz.underlying29
  obtain ⟨i0, hi, hz0, hz1, hz2⟩ := info_parts Tryz.info5
  unfold execOp
  simp only [ho]
  go_simp

theorem rd_one (w : World) (x : Int) (h0 : 0 ≤ x) (h1 : x ≤ 255) : Rd (w.alloc (.cells #[.int .u8 x] 5)) (some ⟨w.heap.size, 0, none⟩) 1 1 [x] := by
  refine ⟨rfl, Nat.le_refl _, by unfold maxLen; omega, (fun h => by cases h), (fun q hq => by simp at hq; omega), fun ad had j hj => ?_⟩
  cases had
  rw [add_flat]
  match j, hj with
  | 0, _ => unfold World.cell?; rw [World.alloc_heap_new]; rfl
/-- append(v, x): one byte behind own ones. -/
theorem wp_app1K {wr : World} {ops : Array Oper} {rest : List Oper} {o : Oper} {a : Act} {Q : Exit → Act → World → Prop} (hgd : o.guard = none) (s x : Operand)
    (ho : o.op = .call { callee := .builtin .append, args := #[s, x], argTypes := #[29, 29] })
    (base : Nat) (v : Value) (n : Nat) (xs : List Int) (hs : a.eval s = v) (hown : wr.ownsRow base 5 1 v n (bc xs)) (x0 : Int) (h0 : 0 ≤ x0) (h1 : x0 ≤ 255) (hx : a.eval x = .slice (some ⟨wr.heap.size, 0, none⟩) 1 1) (hb : n ≤ 100000000) (hbase : base ≤ wr.heap.size)
    (h : ∀ v' w', w'.ownsRow base 5 1 v' (n + 1) (bc (xs ++ [x0])) → Below base wr w' → wpList Tryz.prog ops Q rest (a.put o.dst v') w') : wpList Tryz.prog ops Q (o :: rest) a (wr.alloc (.cells #[.int .u8 x0] 5)) := by
  refine wp_appK hgd s x ho base v n xs hs (hown.alloc _) _ 1 1 [x0] hx (rd_one wr x0 h0 h1) (by omega) (by rw [World.size_alloc]; omega) ?_
  intro v' w' h1 h2 _
  exact h v' w' h1 (below_step (Below.refl _ _) hbase hown h2)

end Go.Proofs.YtikkieaokfailaaGreatDoor

/- CRC-32 on bit vectors: one bit's step, a byte's eight, a row's; sums go by xor; a step loses nothing. -/
namespace Go.Proofs.YtikkieaokfailaaGreatDoor
open Go.RowKit

def sb (r : BitVec 32) : BitVec 32 := (r >>> 1) ^^^ (if r.getLsbD 0 then 0xedb88320#32 else 0#32)
def sh (r : BitVec 32) : Nat → BitVec 32
  | 0 => r
  | k + 1 => sb (sh r k)
def byB (x : Int) : BitVec 32 := BitVec.ofInt 32 x
def reg (r : BitVec 32) : List Int → BitVec 32
  | [] => r
  | x :: xs => reg (sh (r ^^^ byB x) 8) xs
def more (s : BitVec 32) (xs : List Int) : BitVec 32 := ~~~ (reg (~~~ s) xs)

theorem reg_append (r : BitVec 32) (xs ys : List Int) : reg r (xs ++ ys) = reg (reg r xs) ys := by
  induction xs generalizing r with
  | nil => rfl
  | cons x xs ih => exact ih _
theorem more_append (s : BitVec 32) (xs ys : List Int) : more s (xs ++ ys) = more (more s xs) ys := by
  unfold more; rw [reg_append, BitVec.not_not]
theorem more_nil (s : BitVec 32) : more s [] = s := by unfold more reg; rw [BitVec.not_not]

theorem sb_xor (a b : BitVec 32) : sb (a ^^^ b) = sb a ^^^ sb b := by
  unfold sb
  rw [BitVec.ushiftRight_xor_distrib, BitVec.getLsbD_xor]
  cases a.getLsbD 0 <;> cases b.getLsbD 0 <;> simp
  · rw [BitVec.xor_assoc]
  · ac_rfl
  · rw [show a >>> 1 ^^^ 3988292384#32 ^^^ (b >>> 1 ^^^ 3988292384#32) = a >>> 1 ^^^ b >>> 1 ^^^ (3988292384#32 ^^^ 3988292384#32) by ac_rfl]; simp
theorem sh_xor (a b : BitVec 32) : ∀ k, sh (a ^^^ b) k = sh a k ^^^ sh b k
  | 0 => rfl
  | k + 1 => by unfold sh; rw [sh_xor a b k, sb_xor]
theorem sb_zero : sb 0#32 = 0#32 := by decide
theorem sh_zero : ∀ k, sh 0#32 k = 0#32
  | 0 => rfl
  | k + 1 => by unfold sh; rw [sh_zero k, sb_zero]
theorem sb_ne {d : BitVec 32} (h : sb d = 0#32) : d = 0#32 := by
  unfold sb at h
  cases hl : d.getLsbD 0 with
  | true =>
    rw [hl] at h
    have h31 := congrArg (fun z => z.getLsbD 31) h
    simp at h31
  | false =>
    rw [hl] at h
    simp at h
    have hn := congrArg BitVec.toNat h
    rw [BitVec.toNat_ushiftRight] at hn
    simp [Nat.shiftRight_eq_div_pow] at hn
    apply BitVec.eq_of_toNat_eq
    have : d.toNat.testBit 0 = false := hl
    rw [Nat.testBit_zero] at this
    simp at this
    simp
    omega
theorem sh_ne {d : BitVec 32} : ∀ {k}, sh d k = 0#32 → d = 0#32
  | 0, h => h
  | k + 1, h => sh_ne (k := k) (sb_ne h)

/-- What two rows of one length make of two registers: by xor. -/
def dif (d : BitVec 32) : List Int → List Int → BitVec 32
  | x :: xs, y :: ys => dif (sh (d ^^^ byB x ^^^ byB y) 8) xs ys
  | _, _ => d
theorem reg_dif (a b : BitVec 32) (xs ys : List Int) (h : xs.length = ys.length) : reg a xs ^^^ reg b ys = dif (a ^^^ b) xs ys := by
  induction xs generalizing a b ys with
  | nil => cases ys with
    | nil => rfl
    | cons y ys => cases h
  | cons x xs ih => cases ys with
    | nil => cases h
    | cons y ys =>
      have := ih (sh (a ^^^ byB x) 8) (sh (b ^^^ byB y) 8) ys (by simpa using h)
      show reg (sh (a ^^^ byB x) 8) xs ^^^ reg (sh (b ^^^ byB y) 8) ys = dif (sh (a ^^^ b ^^^ byB x ^^^ byB y) 8) xs ys
      rw [this, ← sh_xor]
      congr 2
      ac_rfl
theorem dif_same (d : BitVec 32) (xs : List Int) (h : dif d xs xs = 0#32) : d = 0#32 := by
  induction xs generalizing d with
  | nil => exact h
  | cons x xs ih =>
    have := sh_ne (ih _ h)
    rw [BitVec.xor_assoc, BitVec.xor_self, BitVec.xor_zero] at this
    exact this

/-! ### As whole numbers -/
def uw (r : BitVec 32) : Int := (r.toNat : Int)
theorem uw_bd (r : BitVec 32) : 0 ≤ uw r ∧ uw r ≤ 4294967295 := by unfold uw; have := r.isLt; omega
theorem uw_of {x : Int} (h0 : 0 ≤ x) (h1 : x ≤ 4294967295) : ∃ r, x = uw r := by
  refine ⟨BitVec.ofNat 32 x.toNat, ?_⟩
  unfold uw
  rw [BitVec.toNat_ofNat, Nat.mod_eq_of_lt (by omega)]
  omega
theorem uw_inj {a b : BitVec 32} (h : uw a = uw b) : a = b := by unfold uw at h; exact BitVec.eq_of_toNat_eq (by omega)
theorem wrap_uw (r : BitVec 32) : IntKind.u32.wrap (r.toNat : Int) = uw r := by
  have := r.isLt
  rw [IntKind.wrap_u32]; unfold uw; omega
theorem ofInt_uw (r : BitVec 32) : BitVec.ofInt 32 (uw r) = r := by
  unfold uw; rw [BitVec.ofInt_natCast, BitVec.ofNat_toNat, BitVec.setWidth_eq]
theorem xor_uw (a b : BitVec 32) : bits .xor .u32 (uw a) (uw b) = uw (a ^^^ b) := by
  show IntKind.u32.wrap ((BitVec.ofInt 32 (uw a) ^^^ BitVec.ofInt 32 (uw b)).toNat : Int) = _
  rw [ofInt_uw, ofInt_uw, wrap_uw]
theorem xor_byte (a : BitVec 32) (x : Int) : bits .xor .u32 (uw a) x = uw (a ^^^ byB x) := by
  show IntKind.u32.wrap ((BitVec.ofInt 32 (uw a) ^^^ BitVec.ofInt 32 x).toNat : Int) = _
  rw [ofInt_uw, wrap_uw]; rfl
theorem not_uw (a : BitVec 32) : bits .xor .u32 IntKind.u32.max (uw a) = uw (~~~ a) := by
  show IntKind.u32.wrap ((BitVec.ofInt 32 IntKind.u32.max ^^^ BitVec.ofInt 32 (uw a)).toNat : Int) = _
  rw [ofInt_uw, wrap_uw]
  have : BitVec.ofInt 32 IntKind.u32.max = BitVec.allOnes 32 := by decide
  rw [this, BitVec.allOnes_xor]
theorem and_uw (a : BitVec 32) : bits .and .u32 (uw a) 1 = if a.getLsbD 0 then 1 else 0 := by
  show IntKind.u32.wrap ((BitVec.ofInt 32 (uw a) &&& BitVec.ofInt 32 1).toNat : Int) = _
  rw [ofInt_uw, wrap_uw, uw, BitVec.toNat_and, show (BitVec.ofInt 32 1).toNat = 1 from by decide, Nat.and_one_is_mod]
  have hb : a.getLsbD 0 = decide (a.toNat % 2 = 1) := Nat.testBit_zero _
  rw [hb]
  by_cases h : a.toNat % 2 = 1
  · simp [h]
  · have h2 : a.toNat % 2 = 0 := by omega
    simp [h2]
theorem shr_uw (a : BitVec 32) : (uw a) / (2 : Int) = uw (a >>> (1 : Nat)) := by
  unfold uw; rw [BitVec.toNat_ushiftRight, Nat.shiftRight_eq_div_pow]; simp
theorem poly_uw (a : BitVec 32) : bits .xor .u32 (uw a) 3988292384 = uw (a ^^^ 0xedb88320#32) := xor_byte a 3988292384
end Go.Proofs.YtikkieaokfailaaGreatDoor

/- crc: shifted, More, Sum; the document's. -/
namespace Go.Proofs.YtikkieaokfailaaGreatDoor
open Go.RowKit

theorem sb_one {r : BitVec 32} (h : r.getLsbD 0 = true) : sb r = (r >>> 1) ^^^ 0xedb88320#32 := by unfold sb; rw [h]; rfl
theorem sb_nil {r : BitVec 32} (h : r.getLsbD 0 = false) : sb r = r >>> 1 := by unfold sb; rw [h]; simp

set_option maxRecDepth 100000 in
set_option maxHeartbeats 800000 in
theorem shifted_any (r : BitVec 32) (w : World) :
    Calls Tryz.prog 169 #[.int .u32 (uw r)] w fun e w' => e = .returned (.int .u32 (uw (sh r 8))) ∧ w' = w := by
  go_enter Tryz.func169, Tryz.ntmps169
  go_wp2_with fail
  go_loopw [0, 3, 4] (fun v f i wr => ∃ k : Nat, k ≤ 8 ∧ i = .int .i64 k ∧ v = .int .u32 (uw (sh r k)) ∧ wr = w) (fun _ _ i _ => 8 - (intOf i).toNat)
  case atStart => exact ⟨0, by omega, rfl, rfl, rfl⟩
  case round =>
    obtain ⟨k, hk, rfl, rfl, rfl⟩ := hrel
    by_cases hlt : k < 8
    · have hcl : (k : Int) < 8 := by omega
      have hs : sh r (k + 1) = sb (sh r k) := rfl
      have ha := and_uw (sh r k)
      have hd := shr_uw (sh r k)
      have hp := poly_uw (sh r k >>> 1)
      cases hb : (sh r k).getLsbD 0 with
      | true =>
        rw [hb] at ha
        rw [sb_one hb] at hs
        have ha' : bits .and .u32 (uw (sh r k)) 1 = 1 := ha
        clear ha hb
        go_wp2
        exact ⟨⟨k + 1, by omega, by go_num, by rw [hs], trivial⟩, by simp [intOf]; omega⟩
      | false =>
        rw [hb] at ha
        rw [sb_nil hb] at hs
        have ha' : bits .and .u32 (uw (sh r k)) 1 = 0 := ha
        clear ha hb
        go_wp2
        exact ⟨⟨k + 1, by omega, by go_num, by rw [hs], trivial⟩, by simp [intOf]; omega⟩
    · obtain rfl : k = 8 := by omega
      have hcl2 : ¬ ((8 : Nat) : Int) < 8 := by omega
      go_wp2
      go_ret
      exact ⟨rfl, rfl⟩

theorem reg_take (r : BitVec 32) (xs : List Int) (k : Nat) (h : k < xs.length) : reg r (xs.take (k + 1)) = sh (reg r (xs.take k) ^^^ byB (xs.getD k 0)) 8 := by
  rw [List.take_succ_eq_append_getElem h, reg_append]
  have : xs.getD k 0 = xs[k] := by simp [List.getD, List.getElem?_eq_getElem h]
  rw [this]; rfl

set_option maxRecDepth 100000 in
set_option maxHeartbeats 800000 in
theorem more_any (s : BitVec 32) (a : Option Addr) (n c : Nat) (xs : List Int) (w : World) (hR : Rd w a n c xs) :
    Calls Tryz.prog 157 #[.int .u32 (uw s), .slice a n c] w fun e w' => e = .returned (.int .u32 (uw (more s xs))) ∧ w' = w := by
  have hl := hR.len
  have hcp := hR.cap
  have hmx : c ≤ 9223372036854775807 := hR.most
  have hN1 := not_uw s
  have HR : Hid (Rd w a n c xs) := hR
  have HL : Hid (xs.length = n) := hl
  clear hR hl
  go_enter Tryz.func157, Tryz.ntmps157
  go_wp2_with fail
  go_loopw [5, 7, 12] (fun v f i wr => ∃ k : Nat, k ≤ n ∧ i = .int .i64 k ∧ v = .int .u32 (uw (reg (~~~ s) (xs.take k))) ∧ wr = w) (fun _ _ i _ => n - (intOf i).toNat)
  case atStart => exact ⟨0, by omega, rfl, rfl, rfl⟩
  case round =>
    obtain ⟨k, hk, rfl, rfl, hw⟩ := hrel
    replace hw := hw.symm
    subst hw
    by_cases hlt : k < n
    · have hcl : (k : Int) < (n : Int) := by omega
      obtain ⟨b, off, rfl, hce⟩ := HR.out.flat (by omega)
      have hc1 := hce k hlt
      have hbx := HR.out.bytes.get k
      have hst := reg_take (~~~ s) xs k (by rw [HL.out]; exact hlt)
      have hxb := xor_byte (reg (~~~ s) (xs.take k)) (xs.getD k 0)
      obtain ⟨x, HX⟩ : ∃ x, Hid (xs.getD k 0 = x) := ⟨_, rfl⟩
      rw [HX.out] at hc1 hbx hst hxb
      have hx32 : x % 4294967296 = x := by omega
      have hst' : Hid (_ = _) := hst
      obtain ⟨R, HRg⟩ : ∃ R, Hid (reg (~~~ s) (xs.take k) = R) := ⟨_, rfl⟩
      rw [HRg.out] at hxb hst' ⊢
      clear hst hce hN1
      go_wp2_with (go_at_call 169; refine (shifted_any (R ^^^ byB x) _).mono ?_; rintro e w' ⟨rfl, rfl⟩)
      exact ⟨⟨k + 1, by omega, by go_num, by rw [hst'.out], trivial⟩, by simp [intOf]; omega⟩
    · obtain rfl : k = n := by omega
      have hcl2 : ¬ (k : Int) < (k : Int) := by omega
      have ht : xs.take k = xs := List.take_of_length_le (by rw [HL.out]; omega)
      rw [ht]
      have hN2 := not_uw (reg (~~~ s) xs)
      clear ht hN1
      go_wp2
      go_ret
      exact ⟨rfl, rfl⟩

theorem uw_zero : (0 : Int) = uw 0#32 := rfl
theorem sum_any (a : Option Addr) (n c : Nat) (xs : List Int) (w : World) (hR : Rd w a n c xs) :
    Calls Tryz.prog 137 #[.slice a n c] w fun e w' => e = .returned (.int .u32 (uw (more 0#32 xs))) ∧ w' = w := by
  have hM := fun u (h : Rd u a n c xs) => more_any 0#32 a n c xs u h
  go_enter Tryz.func137, Tryz.ntmps137
  go_wp2_with (go_at_call 157; refine (hM _ hR).mono ?_; rintro e w' ⟨rfl, rfl⟩)
  go_ret
  exact ⟨rfl, rfl⟩

set_option maxRecDepth 100000 in
set_option maxHeartbeats 1600000 in
theorem refMore_any (s : BitVec 32) (a : Option Addr) (n c : Nat) (xs : List Int) (w : World) (hR : Rd w a n c xs) :
    Calls Tryz.prog 148 #[.int .u32 (uw s), .slice a n c] w fun e w' => e = .returned (.int .u32 (uw (more s xs))) ∧ w' = w := by
  have hcp := hR.cap
  have hmx : c ≤ 9223372036854775807 := hR.most
  have hN1 := not_uw s
  have HL : Hid (xs.length = n) := hR.len
  have HR : Hid (Rd w a n c xs) := hR
  clear hR
  go_enter Tryz.func148, Tryz.ntmps148
  go_wp2_with fail
  go_loopw [5, 6, 7] (fun v i f wr => ∃ k : Nat, k ≤ n ∧ i = .int .i64 k ∧ v = .int .u32 (uw (reg (~~~ s) (xs.take k))) ∧ wr = w) (fun _ i _ _ => n - (intOf i).toNat)
  case atStart => exact ⟨0, by omega, rfl, rfl, rfl⟩
  case round =>
    obtain ⟨k, hk, rfl, rfl, hw⟩ := hrel
    replace hw := hw.symm
    subst hw
    by_cases hlt : k < n
    · have hcl : (k : Int) < (n : Int) := by omega
      obtain ⟨b, off, rfl, hce⟩ := HR.out.flat (by omega)
      have hc1 := hce k hlt
      have hbx := HR.out.bytes.get k
      have hst := reg_take (~~~ s) xs k (by rw [HL.out]; exact hlt)
      have hxb := xor_byte (reg (~~~ s) (xs.take k)) (xs.getD k 0)
      obtain ⟨x, HX⟩ : ∃ x, Hid (xs.getD k 0 = x) := ⟨_, rfl⟩
      rw [HX.out] at hc1 hbx hst hxb
      have hx32 : x % 4294967296 = x := by omega
      have hst' : Hid (_ = _) := hst
      obtain ⟨R, HRg⟩ : ∃ R, Hid (reg (~~~ s) (xs.take k) = R) := ⟨_, rfl⟩
      rw [HRg.out] at hxb hst' ⊢
      clear hst hce hN1
      go_wp2_with fail
      have hr0 : R ^^^ byB x = sh (R ^^^ byB x) 0 := rfl
      go_loopw [5, 7] (fun v i w2 => ∃ j : Nat, j ≤ 8 ∧ i = .int .i64 j ∧ v = .int .u32 (uw (sh (R ^^^ byB x) j)) ∧ w2 = w) (fun _ i _ => 8 - (intOf i).toNat)
      case atStart => exact ⟨0, by omega, rfl, rfl, rfl⟩
      case round =>
        obtain ⟨j, hj, rfl, rfl, hw2⟩ := hrel
        replace hw2 := hw2.symm
        subst hw2
        clear hxb hc1 hr0
        by_cases hlt2 : j < 8
        · have hcl3 : (j : Int) < 8 := by omega
          have hs : sh (R ^^^ byB x) (j + 1) = sb (sh (R ^^^ byB x) j) := rfl
          have ha := and_uw (sh (R ^^^ byB x) j)
          have hd := shr_uw (sh (R ^^^ byB x) j)
          have hp := poly_uw (sh (R ^^^ byB x) j >>> 1)
          cases hb : (sh (R ^^^ byB x) j).getLsbD 0 with
          | true =>
            rw [hb] at ha
            rw [sb_one hb] at hs
            have ha' : bits .and .u32 (uw (sh (R ^^^ byB x) j)) 1 = 1 := ha
            have hs' : Hid (_ = _) := hs
            clear ha hb hs
            go_wp2
            exact ⟨⟨j + 1, by omega, by go_num, by rw [hs'.out], trivial⟩, by simp [intOf]; omega⟩
          | false =>
            rw [hb] at ha
            rw [sb_nil hb] at hs
            have ha' : bits .and .u32 (uw (sh (R ^^^ byB x) j)) 1 = 0 := ha
            have hs' : Hid (_ = _) := hs
            clear ha hb hs
            go_wp2
            exact ⟨⟨j + 1, by omega, by go_num, by rw [hs'.out], trivial⟩, by simp [intOf]; omega⟩
        · obtain rfl : j = 8 := by omega
          have hcl4 : ¬ ((8 : Nat) : Int) < 8 := by omega
          go_wp2
          exact ⟨⟨k + 1, by omega, by go_num, by rw [hst'.out], trivial⟩, by simp [intOf]; omega⟩
    · obtain rfl : k = n := by omega
      have hcl2 : ¬ (k : Int) < (k : Int) := by omega
      have ht : xs.take k = xs := List.take_of_length_le (by rw [HL.out]; omega)
      rw [ht]
      have hN2 := not_uw (reg (~~~ s) xs)
      clear ht hN1
      go_wp2
      go_ret
      exact ⟨rfl, rfl⟩

theorem refSum_any (a : Option Addr) (n c : Nat) (xs : List Int) (w : World) (hR : Rd w a n c xs) :
    Calls Tryz.prog 122 #[.slice a n c] w fun e w' => e = .returned (.int .u32 (uw (more 0#32 xs))) ∧ w' = w := by
  have hM := fun u (h : Rd u a n c xs) => refMore_any 0#32 a n c xs u h
  go_enter Tryz.func122, Tryz.ntmps122
  go_wp2_with (go_at_call 148; refine (hM _ hR).mono ?_; rintro e w' ⟨rfl, rfl⟩)
  go_ret
  exact ⟨rfl, rfl⟩
end Go.Proofs.YtikkieaokfailaaGreatDoor
