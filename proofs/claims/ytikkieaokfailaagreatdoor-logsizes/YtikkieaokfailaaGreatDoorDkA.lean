/- The disk's small functions: ask, pass, attempt. -/
import Derived.Test.YtikkieaokfailaaGreatDoorDkM
import Derived.Defers
import Derived.Recover
import Derived.Laws.Pointers
import Derived.Lib.SmallJoins
import Derived.Shelf.Abstract
namespace Go.Proofs.YtikkieaokfailaaGreatDoor
open Go.RowKit Go.Joins

/-- A call gives up. -/
def gaveUp (n : Nat) : List PanicEntry := [{ v := .iface 135 (.agg #[.int .i64 n]), recovered := false }]
/-- It went through, or it gave up with the error's number. -/
def Gv (n : Nat) (e : Ending) : Prop := (n = 0 ∧ e = .returned (.tuple #[])) ∨ (n ≠ 0 ∧ e = .panicked (gaveUp n))

theorem ask_ok (n : Int) (w : World) : Calls Tryz.prog 50 #[.bool true, .int .i64 n] w fun e w' => e = .returned (.tuple #[]) ∧ w' = w := by
  go_enter Tryz.func50, Tryz.ntmps50
  go_wp2
  go_end0
  exact ⟨rfl, rfl⟩
theorem ask_no (n : Nat) (w : World) : Calls Tryz.prog 50 #[.bool false, .int .i64 n] w fun e w' => e = .panicked (gaveUp n) ∧ w' = w := by
  go_enter Tryz.func50, Tryz.ntmps50
  go_wp2
  exact ⟨rfl, rfl, rfl⟩

/-- The cells of a disk. -/
structure Raw where
  room : Int
  used : Int
  steps : Int
  down : Bool
  fused : Bool
  left : Int
def rcs (r : Raw) (bm : Nat) : Array Value := #[.int .i64 r.room, .map (some bm), .int .i64 r.used, .int .i64 r.steps, .bool r.down, .bool r.fused, .int .i64 r.left]
/-- A disk at block d, with its map at bm. -/
structure DR (w : World) (d bm n : Nat) (r : Raw) (m : Nm → Option FV) : Prop where
  blk : w.heap[d]? = some (.cells (rcs r bm) 101 (0, 0))
  map : FMap w bm n m
section
variable {w : World} {d bm n : Nat} {r : Raw} {m : Nm → Option FV}
theorem DR.lt (h : DR w d bm n r m) : d < w.heap.size := (Array.getElem?_eq_some_iff.1 h.blk).1
theorem DR.ne (h : DR w d bm n r m) : d ≠ bm := h.map.notCells h.blk
theorem DR.keep {S : Nat → Prop} {w' : World} (h : DR w d bm n r m) (hk : Keep S w w') (hd : ¬ S d) (hb : ¬ S bm) : DR w' d bm n r m := ⟨(hk.block d h.lt hd).trans h.blk, h.map.keep hk hb⟩
theorem DR.below {w' : World} (h : DR w d bm n r m) (hk : Below w.heap.size w w') : DR w' d bm n r m := h.keep (S := fun _ => False) (Keep.ofBelow hk) (fun h => h) (fun h => h)
theorem DR.alloc (h : DR w d bm n r m) (o : Obj) : DR (w.alloc o) d bm n r m := h.keep (S := fun _ => False) ((Keep.refl _ _).alloc o) (fun h => h) (fun h => h)
theorem DR.c0 (h : DR w d bm n r m) : w.cell? ⟨d, 0, none⟩ = some (.int .i64 r.room) := by rw [cell_of_block h.blk]; rfl
theorem DR.c1 (h : DR w d bm n r m) : w.cell? ⟨d, 1, none⟩ = some (.map (some bm)) := by rw [cell_of_block h.blk]; rfl
theorem DR.c2 (h : DR w d bm n r m) : w.cell? ⟨d, 2, none⟩ = some (.int .i64 r.used) := by rw [cell_of_block h.blk]; rfl
theorem DR.c3 (h : DR w d bm n r m) : w.cell? ⟨d, 3, none⟩ = some (.int .i64 r.steps) := by rw [cell_of_block h.blk]; rfl
theorem DR.c4 (h : DR w d bm n r m) : w.cell? ⟨d, 4, none⟩ = some (.bool r.down) := by rw [cell_of_block h.blk]; rfl
theorem DR.c5 (h : DR w d bm n r m) : w.cell? ⟨d, 5, none⟩ = some (.bool r.fused) := by rw [cell_of_block h.blk]; rfl
theorem DR.c6 (h : DR w d bm n r m) : w.cell? ⟨d, 6, none⟩ = some (.int .i64 r.left) := by rw [cell_of_block h.blk]; rfl
theorem DR.fz (h : DR w d bm n r m) (i : Nat) : w.frozen? ⟨d, i, none⟩ = false := unfrozen_of_block h.blk i
theorem DR.set (h : DR w d bm n r m) (i : Nat) (v : Value) (r' : Raw) (e : (rcs r bm).setIfInBounds i v = rcs r' bm) : DR (w.setCell ⟨d, i, none⟩ v) d bm n r' m :=
  ⟨by rw [← e]; exact block_setCell h.blk v, h.map.keep ((Keep.refl (fun k => k = d) w).setCell (p := ⟨d, i, none⟩) rfl v) (fun e => h.ne e.symm)⟩
theorem DR.setK (_ : DR w d bm n r m) (i : Nat) (v : Value) : Keep (fun k => k = d) w (w.setCell ⟨d, i, none⟩ v) := (Keep.refl (fun k => k = d) w).setCell (p := ⟨d, i, none⟩) rfl v
end

/-- pass: no fuse. -/
theorem pass_free (w : World) (d bm n : Nat) (r : Raw) (m : Nm → Option FV) (h : DR w d bm n r m) (hf : r.fused = false) (hs : 0 ≤ r.steps) (hs2 : r.steps < 9223372036854775807) :
    Calls Tryz.prog 53 #[.pointer (some ⟨d, 0, none⟩)] w fun e w' => e = .returned (.tuple #[]) ∧ DR w' d bm n { r with steps := r.steps + 1 } m ∧ Keep (fun k => k = d) w w' := by
  have q5 := h.c5
  rw [hf] at q5
  have q3 := h.c3
  have z3 := h.fz 3
  have hw : wrap64 (r.steps + 1) = r.steps + 1 := by unfold wrap64; omega
  go_enter Tryz.func53, Tryz.ntmps53
  go_wp2
  go_end0
  exact ⟨rfl, h.set 3 _ _ rfl, h.setK 3 _⟩
/-- pass: a fuse with nothing left. -/
theorem pass_no (w : World) (d bm n : Nat) (r : Raw) (m : Nm → Option FV) (h : DR w d bm n r m) (hf : r.fused = true) (hl : r.left = 0) :
    Calls Tryz.prog 53 #[.pointer (some ⟨d, 0, none⟩)] w fun e w' => e = .panicked (gaveUp 13) ∧ DR w' d bm n { r with down := true } m ∧ Keep (fun k => k = d) w w' := by
  have q5 := h.c5
  rw [hf] at q5
  have q6 := h.c6
  rw [hl] at q6
  have q4 := h.c4
  have z4 := h.fz 4
  have h1 : DR (w.setCell ⟨d, 4, none⟩ (.bool true)) d bm n { r with down := true } m := h.set 4 _ _ rfl
  have k1 := h.setK 4 (.bool true)
  have p4 := h1.c4
  go_enter Tryz.func53, Tryz.ntmps53
  go_wp2_with (first
    | (go_at_call 50; refine (ask_no 13 _).mono ?_; rintro e w1 ⟨rfl, rfl⟩))
  exact ⟨rfl, rfl, h1, k1⟩
/-- pass: a fuse with something left. -/
theorem pass_yes (w : World) (d bm n : Nat) (r : Raw) (m : Nm → Option FV) (h : DR w d bm n r m) (hf : r.fused = true) (hl : 0 < r.left) (hl2 : r.left ≤ 9223372036854775807) (hs : 0 ≤ r.steps) (hs2 : r.steps < 9223372036854775807) :
    Calls Tryz.prog 53 #[.pointer (some ⟨d, 0, none⟩)] w fun e w' => e = .returned (.tuple #[]) ∧ DR w' d bm n { r with down := false, left := r.left - 1, steps := r.steps + 1 } m ∧ Keep (fun k => k = d) w w' := by
  have q5 := h.c5
  rw [hf] at q5
  have q6 := h.c6
  have q4 := h.c4
  have z4 := h.fz 4
  have he : (r.left == 0) = false := by simp; omega
  have hw : wrap64 (r.steps + 1) = r.steps + 1 := by unfold wrap64; omega
  have hw2 : wrap64 (r.left - 1) = r.left - 1 := by unfold wrap64; omega
  clear hl hl2 hs hs2 hf
  have h1 : DR (w.setCell ⟨d, 4, none⟩ (.bool false)) d bm n { r with down := false } m := h.set 4 _ _ rfl
  have k1 := h.setK 4 (.bool false)
  have p4 := h1.c4
  go_enter Tryz.func53, Tryz.ntmps53
  go_upto_region 3 with (first
    | (go_at_call 50; refine (ask_ok 13 _).mono ?_; rintro e w1 ⟨rfl, rfl⟩))
  generalize w.setCell ⟨d, 4, none⟩ (.bool false) = W at *
  have p6 := h1.c6
  have z6 := h1.fz 6
  have h2 := h1.set 6 (.int .i64 (r.left - 1)) { r with down := false, left := r.left - 1 } rfl
  have k2 := k1.trans (h1.setK 6 (.int .i64 (r.left - 1)))
  have p3 := h2.c3
  have z3 := h2.fz 3
  go_wp2
  go_end0
  exact ⟨rfl, h2.set 3 _ _ rfl, k2.trans (h2.setK 3 _)⟩

theorem catchD_panicking (p : Addr) (x : Int) (n : Nat) (w : World) (hc : w.cell? p = some (.int .i64 x)) (hz : w.frozen? p = false) :
    CallsD Tryz.prog 90 #[.pointer (some p)] (.panicking (gaveUp n)) w fun e u' w' =>
      e = .returned (.tuple #[]) ∧ u' = .panicking [{ v := .iface 135 (.agg #[.int .i64 n]), recovered := true }] ∧ w' = w.setCell p (.int .i64 n) := by
  unfold gaveUp
  refine callsD_of_wpS Tryz.func90 rfl fun c₀ cs hu => ?_
  apply wpS_seq
  apply wpS_region
  simp [wpOpsS, go_sem, recoverD, hu, Tryz.ntmps90, Exit.thenS]
  refine wpS_of_wp ?_
  rw [show #[Value.pointer (some p)] ++ ((Array.replicate 7 undef).setIfInBounds 1 (Value.iface 135 (Value.agg #[Value.int IntKind.i64 n]))).setIfInBounds 0 (Value.iface 135 (Value.agg #[Value.int IntKind.i64 n])) = #[Value.pointer (some p), Value.iface 135 (Value.agg #[Value.int IntKind.i64 n]), Value.iface 135 (Value.agg #[Value.int IntKind.i64 n]), undef, undef, undef, undef, undef] from rfl]
  have hta : (Instr.typeAssert (Value.iface 135 (Value.agg #[Value.int IntKind.i64 n])) 20 135 false).run Tryz.prog w = .ok (Value.agg #[Value.int IntKind.i64 n]) w := by
    simp [Instr.typeAssert, go_sem]
  have hfd : (Instr.field 135 (Value.agg #[Value.int IntKind.i64 n]) 0).run Tryz.prog w = .ok (Value.int IntKind.i64 n) w := by
    simp [Instr.field, go_sem, asAgg]
  go_wp2
  simp [bodyPostS, results, Tryz.results90]
theorem catchD_idle (p : Addr) (w : World) :
    CallsD Tryz.prog 90 #[.pointer (some p)] .returning w fun e u' w' => e = .returned (.tuple #[]) ∧ u' = .returning ∧ w' = w := by
  refine callsD_of_wpS Tryz.func90 rfl fun c₀ cs hu => ?_
  apply wpS_seq
  apply wpS_region
  simp [wpOpsS, go_sem, recoverD, hu, Tryz.ntmps90, Exit.thenS]
  refine wpS_of_wp ?_
  rw [show #[Value.pointer (some p)] ++ ((Array.replicate 7 undef).setIfInBounds 1 Value.nilIface).setIfInBounds 0 Value.nilIface = #[Value.pointer (some p), Value.nilIface, Value.nilIface, undef, undef, undef, undef, undef] from rfl]
  go_wp2
  cases c₀
  simp_all [bodyPostS, results, Tryz.results90]

theorem cell_one {w : World} {B : Nat} {v : Value} {t : TypeId} (h : w.heap[B]? = some (.cells #[v] t (0, 0))) : w.cell? ⟨B, 0, none⟩ = some v := by simp [World.cell?, h]
theorem thaw_one {w : World} {B : Nat} {v : Value} {t : TypeId} (h : w.heap[B]? = some (.cells #[v] t (0, 0))) : w.frozen? ⟨B, 0, none⟩ = false := by simp [World.frozen?, h]
theorem alloc_at (w : World) (o : Obj) : (w.alloc o).heap[w.heap.size]? = some o := by
  show (w.heap.push o)[w.heap.size]? = _
  simp

/-- attempt, without power. -/
theorem attempt_down (d k : Nat) (caps : Array Value) (w : World) (hd : w.cell? ⟨d, 4, none⟩ = some (.bool true)) :
    Calls Tryz.prog 48 #[.pointer (some ⟨d, 0, none⟩), .func (.func k) #[] caps] w fun e w' => e = .returned (.int .i64 13) ∧ Below w.heap.size w w' := by
  have hmf : ∀ (fn : Fn) (first cap : Array Value) (w : World), (Instr.makeFunc fn first cap).run Tryz.prog w = .ok (.func fn first cap) w := fun _ _ _ _ => rfl
  have hb0 : Below w.heap.size w (w.alloc (.cells #[.int .i64 0] 37)) := (Below.refl _ _).alloc (Nat.le_refl _) _
  have hd' : (w.alloc (.cells #[.int .i64 0] 37)).cell? ⟨d, 4, none⟩ = some (.bool true) := ((Keep.refl (fun _ => False) w).alloc _).cell hd (fun h => h)
  have hcl := cell_one (alloc_at w (.cells #[.int .i64 0] 37))
  have hfz := thaw_one (alloc_at w (.cells #[.int .i64 0] 37))
  clear hd
  go_enter_defers Tryz.func48, Tryz.ntmps48
  go_wp2_with (go_at_call 50; refine (ask_no 13 _).mono ?_; rintro e w1 ⟨rfl, rfl⟩)
  refine leaves_cons (f := 90) (args := #[.pointer (some ⟨w.heap.size, 0, none⟩)]) (by simp) (by simp [go_sem]) ?_
  refine (catchD_panicking ⟨w.heap.size, 0, none⟩ 0 13 _ hcl hfz).mono ?_
  rintro e u' w2 ⟨rfl, rfl, rfl⟩
  simp [Leaves, settle, results, Tryz.results48, go_sem]
  exact (Below.refl _ _).alloc (Nat.le_refl _) _

/-- attempt, with power: what is done goes through, or gives up. -/
theorem attempt_go (d k : Nat) (caps : Array Value) (n : Nat) (Post : World → Prop) (w : World) (hent : ∀ args w, (callFunc k args).run Tryz.prog w = .ok (.enter k args) w) (hd : w.cell? ⟨d, 4, none⟩ = some (.bool false))
    (hc : Calls Tryz.prog k caps (w.alloc (.cells #[.int .i64 0] 37)) fun e w' => Gv n e ∧ Post w' ∧ w'.heap[w.heap.size]? = some (.cells #[.int .i64 0] 37 (0, 0))) :
    Calls Tryz.prog 48 #[.pointer (some ⟨d, 0, none⟩), .func (.func k) #[] caps] w fun e w' => e = .returned (.int .i64 n) ∧ ∃ w1, Post w1 ∧ w' = w1.setCell ⟨w.heap.size, 0, none⟩ (.int .i64 n) := by
  have hmf : ∀ (fn : Fn) (first cap : Array Value) (w : World), (Instr.makeFunc fn first cap).run Tryz.prog w = .ok (.func fn first cap) w := fun _ _ _ _ => rfl
  have hd' : (w.alloc (.cells #[.int .i64 0] 37)).cell? ⟨d, 4, none⟩ = some (.bool false) := ((Keep.refl (fun _ => False) w).alloc _).cell hd (fun h => h)
  clear hd
  by_cases h0 : n = 0
  · subst h0
    have hc' := hc.mono (fun e w' h => And.intro (h.1.elim (fun k => k.2) (fun k => absurd rfl k.1)) h.2 : ∀ e w', _ → (e = .returned (.tuple #[]) ∧ _))
    clear hc
    go_enter_defers Tryz.func48, Tryz.ntmps48
    go_wp2_with (first
      | (go_at_call 50; refine (ask_ok 13 _).mono ?_; rintro e w1 ⟨rfl, rfl⟩)
      | (go_at_fn k; refine hc'.mono ?_; rintro e w1 ⟨rfl, hP, hB⟩; have hcl := cell_one hB; have hfz := thaw_one hB))
    refine leaves_cons (f := 90) (args := #[.pointer (some ⟨w.heap.size, 0, none⟩)]) (by simp) (by simp [go_sem]) ?_
    refine (catchD_idle ⟨w.heap.size, 0, none⟩ _).mono ?_
    rintro e u' w2 ⟨rfl, rfl, rfl⟩
    simp [Leaves, settle, results, Tryz.results48, go_sem, hcl]
    exact ⟨w1, hP, rfl⟩
  · have hc' := hc.mono (fun e w' h => And.intro (h.1.elim (fun k => absurd k.1 h0) (fun k => k.2)) h.2 : ∀ e w', _ → (e = .panicked (gaveUp n) ∧ _))
    clear hc
    go_enter_defers Tryz.func48, Tryz.ntmps48
    go_wp2_with (first
      | (go_at_call 50; refine (ask_ok 13 _).mono ?_; rintro e w1 ⟨rfl, rfl⟩)
      | (go_at_fn k; refine hc'.mono ?_; rintro e w1 ⟨rfl, hP, hB⟩; have hcl := cell_one hB; have hfz := thaw_one hB))
    refine leaves_cons (f := 90) (args := #[.pointer (some ⟨w.heap.size, 0, none⟩)]) (by simp) (by simp [go_sem]) ?_
    refine (catchD_panicking ⟨w.heap.size, 0, none⟩ 0 n _ hcl hfz).mono ?_
    rintro e u' w2 ⟨rfl, rfl, rfl⟩
    simp [Leaves, settle, results, Tryz.results48, go_sem, hcl]
    exact ⟨w1, hP, rfl⟩

end Go.Proofs.YtikkieaokfailaaGreatDoor
