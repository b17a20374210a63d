/- The door: of, keep. -/
import Derived.Test.YtiidjdedeenijaaDoorScVs
import Derived.Test.YtiidjdedeenijaaDoorDrM
import Derived.Test.YtiidjdedeenijaaDoorShelf
import Derived.Test.YtiidjdedeenijaaDoorLate
import Derived.BigQuiet
set_option maxRecDepth 100000
namespace Go.Proofs.YtiidjdedeenijaaDoor
open Go.RowKit

/-- A door at block d: its bounds, and its map at block bm. -/
structure DoorAt (w : World) (d bm n : Nat) (most : Int) (sec : Nat) (m : ByteArray → Option Tr) : Prop where
  c0 : w.cell? ⟨d, 0, none⟩ = some (.int .i64 most)
  c1 : w.cell? ⟨d, 1, none⟩ = some (.float .f64 sec)
  c2 : w.cell? ⟨d, 2, none⟩ = some (.map (some bm))
  map : MapAt w bm n m

theorem DoorAt.ne {w : World} {d bm n : Nat} {most : Int} {sec : Nat} {m : ByteArray → Option Tr} (h : DoorAt w d bm n most sec m) : d ≠ bm := h.map.notCells h.c0
theorem DoorAt.lt {w : World} {d bm n : Nat} {most : Int} {sec : Nat} {m : ByteArray → Option Tr} (h : DoorAt w d bm n most sec m) : d < w.heap.size := World.block_lt_of_cell? w _ h.c0
theorem DoorAt.keep {S : Nat → Prop} {w w' : World} {d bm n : Nat} {most : Int} {sec : Nat} {m : ByteArray → Option Tr} (h : DoorAt w d bm n most sec m) (hk : Keep S w w') (hd : ¬ S d) (hb : ¬ S bm) : DoorAt w' d bm n most sec m :=
  ⟨hk.cell h.c0 hd, hk.cell h.c1 hd, hk.cell h.c2 hd, h.map.keep hk hb⟩
theorem DoorAt.below {w w' : World} {d bm n : Nat} {most : Int} {sec : Nat} {m : ByteArray → Option Tr} (h : DoorAt w d bm n most sec m) (hk : Below w.heap.size w w') : DoorAt w' d bm n most sec m :=
  h.keep (S := fun _ => False) (Keep.ofBelow hk) (fun h => h) (fun h => h)
theorem DoorAt.mono {w : World} {d bm n n' : Nat} {most : Int} {sec : Nat} {m : ByteArray → Option Tr} (h : DoorAt w d bm n most sec m) (hn : n ≤ n') : DoorAt w d bm n' most sec m := ⟨h.c0, h.c1, h.c2, h.map.mono hn⟩

/-- What a door knows of a user. -/
def dtr (m : ByteArray → Option Tr) (s : ByteArray) : Tr := (m s).getD (0, NI)

theorem run_store_float (w : World) (a : Addr) (m : Mode) (x : Nat) : (store a (.float .f64 x) m).run Tryd.prog w = stored Tryd.prog w a (.float .f64 x) m := run_store Tryd.prog w a _ m rfl

theorem DoorAt.alloc {w : World} {d bm n : Nat} {most : Int} {sec : Nat} {m : ByteArray → Option Tr} (h : DoorAt w d bm n most sec m) (o : Obj) : DoorAt (w.alloc o) d bm n most sec m :=
  h.keep (S := fun _ => False) ((Keep.refl _ _).alloc o) (fun h => h) (fun h => h)

set_option maxHeartbeats 1000000 in
theorem of_any (d bm n : Nat) (most : Int) (sec : Nat) (m : ByteArray → Option Tr) (s : ByteArray) (hs : s.size ≤ maxLen) (w : World) (hD : DoorAt w d bm n most sec m) :
    Calls Tryd.prog 52 #[.pointer (some ⟨d, 0, none⟩), .string s] w fun e w' => e = .returned (.agg #[.int .i64 (dtr m s).1, .float .f64 (dtr m s).2]) ∧ Below w.heap.size w w' := by
  have hc2 := fun o => (hD.alloc o).c2
  have hsf := run_store_float
  cases hm : m s with
  | none =>
    have HT : Hid (dtr m s = (0, NI)) := by unfold Hid dtr; rw [hm]; rfl
    go_enter Tryd.func52, Tryd.ntmps52
    go_wp2_with (first
      | (at_lookup; refine wp_look rfl _ _ rfl bm n m rfl ((hD.alloc _).map) s hs rfl (0, 0) (by rw [hm]; rfl) false (by rw [hm]; rfl) ?_)
      | (go_at_call 75; refine (inf_any _).mono ?_; rintro e w1 ⟨rfl, rfl⟩))
    refine bodyPost_ret (v := .agg #[.int .i64 0, .float .f64 NI]) (by simp [results, Tryd.results52, go_sem]) rfl ⟨by rw [HT.out], ?_⟩
    exact (((Keep.refl (fun _ => False) _).alloc _).alloc _).below (Nat.le_refl _) (fun _ h => h.elim)
  | some t =>
    have HT : Hid (dtr m s = t) := by unfold Hid dtr; rw [hm]; rfl
    obtain ⟨t1, t2⟩ := t
    go_enter Tryd.func52, Tryd.ntmps52
    go_wp2_with (first
      | (at_lookup; refine wp_look rfl _ _ rfl bm n m rfl ((hD.alloc _).map) s hs rfl (t1, t2) (by rw [hm]; rfl) true (by rw [hm]; rfl) ?_))
    refine bodyPost_ret (v := .agg #[.int .i64 t1, .float .f64 t2]) (by simp [results, Tryd.results52, go_sem]) rfl ⟨by rw [HT.out], ?_⟩
    exact (((Keep.refl (fun _ => False) _).alloc _).alloc _).below (Nat.le_refl _) (fun _ h => h.elim)

/-- What is kept of a user: nothing, if nothing is counted and no time finds the user locked. -/
def kp (t : Tr) : Option Tr := if t.1 = 0 ∧ flt NI t.2 = false then none else some t

set_option maxHeartbeats 1000000 in
/-- keep, where nothing is kept. -/
theorem keep_none (d bm n : Nat) (most : Int) (sec : Nat) (m : ByteArray → Option Tr) (s : ByteArray) (hs : s.size ≤ maxLen) (u : Nat) (hu : flt NI u = false) (w : World) (hD : DoorAt w d bm n most sec m) :
    Calls Tryd.prog 53 #[.pointer (some ⟨d, 0, none⟩), .string s, .agg #[.int .i64 0, .float .f64 u]] w fun e w' => e = .returned (.tuple #[]) ∧ DoorAt w' d bm n most sec (mput m s none) ∧ Keep (fun k => k = bm) w w' := by
  have hc2 := fun o => (hD.alloc o).c2
  have hgt : (FloatKind.f64.format.order u NI == some .gt) = false := by rw [f64_gt]; exact hu
  clear hu
  go_enter Tryd.func53, Tryd.ntmps53
  go_wp2
  go_quiet ((go_at_call 75; refine Calls.quiet_of_same (inf_any _)))
  have hE : DoorAt ((w.alloc (Obj.cells #[.int .i64 0, .float .f64 u] 92)).drewN nq) d bm n most sec m := (hD.alloc _).keep (S := fun _ => False) ((Keep.refl _ _).drewN nq) (fun h => h) (fun h => h)
  have hc3 := hE.c2
  go_wp2_with (first
    | (at_delete; refine wp_drop rfl _ _ rfl bm n m rfl hE.map s hs rfl ?_; intro w2 hM2 hk2))
  have hne := hE.ne
  refine bodyPost_ret (results_none rfl _ _ _) rfl ?_
  refine ⟨rfl, ⟨hk2.cell hE.c0 hne, hk2.cell hE.c1 hne, hk2.cell hE.c2 hne, hM2⟩, ?_⟩
  exact (((Keep.refl (fun k => k = bm) w).alloc _).drewN nq).trans hk2

/-- The region that keeps, in whatever order. -/
def KS (w : World) (d bm b : Nat) (t : Tr) : Prop := w.cell? ⟨d, 2, none⟩ = some (.map (some bm)) ∧ w.cell? ⟨b, 0, none⟩ = some (.int .i64 t.1) ∧ w.cell? ⟨b, 1, none⟩ = some (.float .f64 t.2)

theorem KS.keep {S : Nat → Prop} {w w' : World} {d bm b : Nat} {t : Tr} (h : KS w d bm b t) (hk : Keep S w w') (hd : ¬ S d) (hb : ¬ S b) : KS w' d bm b t := ⟨hk.cell h.1 hd, hk.cell h.2.1 hb, hk.cell h.2.2 hb⟩

set_option maxHeartbeats 2000000 in
/-- keep, where something is kept. -/
theorem keep_some (d bm n : Nat) (most : Int) (sec : Nat) (m : ByteArray → Option Tr) (s : ByteArray) (hs : s.size ≤ 281474976710656) (hn : n < 1000000) (c : Int) (u : Nat) (hu : kp (c, u) = some (c, u)) (w : World) (hD : DoorAt w d bm n most sec m) :
    Calls Tryd.prog 53 #[.pointer (some ⟨d, 0, none⟩), .string s, .agg #[.int .i64 c, .float .f64 u]] w fun e w' => e = .returned (.tuple #[]) ∧ DoorAt w' d bm (n + 1) most sec (mput m s (some (c, u))) ∧ Keep (fun k => k = bm) w w' := by
  have hc2 := fun o => (hD.alloc o).c2
  have hmax : s.size ≤ maxLen := by unfold maxLen; omega
  have hcc : Hid (c = 0 → flt NI u = true) := fun h0 => by
    unfold kp at hu
    by_cases g : flt NI u = true
    · exact g
    · rw [if_pos ⟨h0, by simpa using g⟩] at hu; cases hu
  clear hu
  go_enter Tryd.func53, Tryd.ntmps53
  go_wp2
  go_cut [15] from 6 to 15 (fun p wc => p = .bool false ∧ ∃ nq, wc = (w.alloc (Obj.cells #[.int .i64 c, .float .f64 u] 92)).drewN nq)
  case first =>
    by_cases h0 : c = 0
    · have hgt : (FloatKind.f64.format.order u NI == some .gt) = true := by rw [f64_gt]; exact hcc.out h0
      subst h0
      go_quiet ((go_at_call 75; refine Calls.quiet_of_same (inf_any _)))
      go_wp2
      go_meet
      exact ⟨rfl, nq, rfl⟩
    · have hce : (c == 0) = false := by simpa using h0
      go_quiet (fail)
      go_wp2
      go_meet
      exact ⟨rfl, nq, rfl⟩
  case rest =>
    obtain ⟨rfl, nq, rfl⟩ := hcut
    have hE : DoorAt ((w.alloc (Obj.cells #[.int .i64 c, .float .f64 u] 92)).drewN nq) d bm n most sec m := (hD.alloc _).keep (S := fun _ => False) ((Keep.refl _ _).drewN nq) (fun h => h) (fun h => h)
    have hk0 : Keep (fun k => k = bm) w ((w.alloc (Obj.cells #[.int .i64 c, .float .f64 u] 92)).drewN nq) := ((Keep.refl (fun k => k = bm) w).alloc _).drewN nq
    have hS : KS ((w.alloc (Obj.cells #[.int .i64 c, .float .f64 u] 92)).drewN nq) d bm w.heap.size (c, u) := ⟨hE.c2, World.cell?_alloc_at _ _ _ 0 rfl, World.cell?_alloc_at _ _ _ 1 rfl⟩
    have hbb : w.heap.size ≠ bm := fun e => by have := hD.map.lt; omega
    have hdb : d ≠ bm := hD.ne
    clear hc2
    generalize (w.alloc (Obj.cells #[.int .i64 c, .float .f64 u] 92)).drewN nq = w1 at *
    go_upto_region 3 with fail
    refine wp_region_lx (fun w' => KS w' d bm w.heap.size (c, u)) [] 8 (by kernel_rfl) (by kernel_rfl) ?_
    have HS : KS w1.drew d bm w.heap.size (c, u) := hS.keep (S := fun _ => False) (Keep.refl _ _).drew (fun h => h) (fun h => h)
    have hE1 : DoorAt w1.drew d bm n most sec m := hE.keep (S := fun _ => False) (Keep.refl _ _).drew (fun h => h) (fun h => h)
    have hk1 : Keep (fun k => k = bm) w w1.drew := hk0.drew
    clear hS hE hk0
    generalize w1.drew = W at HS hE1 hk1 ⊢
    refine lx_rd 0 ?vR0 (by kernel_rfl) (fun _ _ d _ _ h => by cases d <;> exact h) (by kernel_rfl) HS rfl rfl rfl (fun w' hS => ?hR0) ?_
    case hR0 => first | (go_simp; rfl) | go_simp
    simp only [List.setIfInBounds_toArray, List.set_cons_zero, List.set_cons_succ]
    refine lx_rd 1 ?vR1 (by kernel_rfl) (fun _ _ d _ _ h => by cases d <;> exact h) (by kernel_rfl) HS rfl rfl rfl (fun w' hS => ?hR1) ?_
    case hR1 => first | (go_simp; rfl) | go_simp
    simp only [List.setIfInBounds_toArray, List.set_cons_zero, List.set_cons_succ]
    refine lx_rd 2 ?vR2 (by kernel_rfl) (fun _ _ d _ _ h => by cases d <;> exact h) (by kernel_rfl) HS rfl rfl rfl (fun w' hS => ?hR2) ?_
    case hR2 => first | (go_simp; rfl) | go_simp
    simp only [List.setIfInBounds_toArray, List.set_cons_zero, List.set_cons_succ]
    refine lx_rd 3 (.map (some bm)) (by kernel_rfl) (fun _ _ d _ _ h => by cases d <;> exact h) (by kernel_rfl) HS rfl rfl rfl (fun w' hS => ?hR3) ?_
    case hR3 => have q := hS.1; first | (go_simp; rfl) | go_simp
    simp only [List.setIfInBounds_toArray, List.set_cons_zero, List.set_cons_succ]
    refine lx_rd 4 ?vR4 (by kernel_rfl) (fun _ _ d _ _ h => by cases d <;> exact h) (by kernel_rfl) HS rfl rfl rfl (fun w' hS => ?hR4) ?_
    case hR4 => first | (go_simp; rfl) | go_simp
    simp only [List.setIfInBounds_toArray, List.set_cons_zero, List.set_cons_succ]
    refine lx_rd 6 (.agg #[.int .i64 c, .float .f64 u]) (by kernel_rfl) (fun _ _ d _ _ h => by cases d <;> exact h) (by kernel_rfl) HS rfl rfl rfl (fun w' hS => ?hR6) ?_
    case hR6 => have q1 := hS.2.1; have q2 := hS.2.2; first | (go_simp; rfl) | go_simp
    simp only [List.setIfInBounds_toArray, List.set_cons_zero, List.set_cons_succ]
    refine lx_one 5 (by kernel_rfl) (stepT_call 76 ?aR5 rfl rfl rfl ?rR5 ?_)
    case rR5 => first | (go_simp; rfl) | go_simp
    refine (clone_any s _ hs).mono ?_
    rintro e w2 ⟨rfl, hb2⟩
    have HS2 : KS w2 d bm w.heap.size (c, u) := HS.keep (S := fun _ => False) (Keep.ofBelow hb2) (fun h => h) (fun h => h)
    have hE2 := hE1.below hb2
    have hk2 : Keep (fun k => k = bm) w w2 := hk1.trans (Keep.ofBelow hb2)
    refine ⟨_, rfl, fun _ => HS2, ?_⟩
    simp only [List.setIfInBounds_toArray, List.set_cons_zero, List.set_cons_succ]
    obtain ⟨w3, hrun, hM3, hk3⟩ := hE2.map.store hn s hmax (c, u)
    have HS3 : KS w3 d bm w.heap.size (c, u) := HS2.keep hk3 hdb hbb
    refine lx_one 7 (by kernel_rfl) (stepT_store (w' := w3) rfl rfl rfl ?rR7 (fun _ => HS3) ?_)
    case rR7 =>
      have hr : (Instr.mapUpdate 88 (.map (some bm)) (.string s) (.agg #[.int .i64 c, .float .f64 u])).run Tryd.prog w2 = .ok () w3 := hrun
      go_simp
    refine lx_nil (by kernel_rfl) ?_
    go_wp2
    go_end0
    exact ⟨rfl, ⟨hk3.cell hE2.c0 hdb, hk3.cell hE2.c1 hdb, hk3.cell hE2.c2 hdb, hM3⟩, hk2.trans hk3⟩

end Go.Proofs.YtiidjdedeenijaaDoor
