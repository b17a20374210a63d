/- Texts of one seat, one behind the other: ShelfL, LgC, LzL, AnyO, AnyP, CcP, CcA, LgN, LgR, DkR. -/
import Derived.Shelf.SlGeneric
import Derived.Shelf.Strconv.Itoa3
import Derived.Shelf.Strings.Prefix
import Derived.Shelf.Bytes.SlEqualAll
import Derived.Shelf.Spec.SearchS
import Derived.Ground.NamesProg
import Derived.Ground.Names2Prog
import Derived.Test.YtikkieaokfailabGreatDoorProg
import Derived.Test.YtikkieaokfailabGreatDoorM3
import Derived.Lib.ItoaMem
import Derived.Test.YtikkieaokfailabGreatDoorRows
import Derived.ProofKit
import Derived.OpenShut
import Derived.ChangeOld
import Derived.Deep.DeepHandedRow
import Derived.Lib.LaidTab
import Derived.Lib.SmallJoins
import Derived.Shelf.Vars
import Derived.Test.YtikkieaokfailabGreatDoorM2
import Derived.Test.YtikkieaokfailabGreatDoorM1
import Derived.Laws.OwnMore
import Derived.Laws.MakeOwn
/-
  DERIVED: THE SHELF's CONTRACTS AT THIS DUMP, IN PLAIN WORDS (tools/lay-plain.mjs out of 'ShelfSrcNow.lean', which tools/lay-shelf.mjs wrote): THE SAME DECLARATIONS UNDER THE SAME NAMES: 'import', 'namespace', 'open', 'def', 'theorem' AND NOTHING ELSE: no command of the shelf's: FOR A HAND-IN. Each laying: the table of numbers ('.._ren') and one theorem, a field a fact of the dump's own or the kernel's comparison; each contract: ONE APPLICATION.
-/
namespace Go.Proofs
open Go.Shelf
def Tryz.laysM171_ren : Go.Shelf.Ren := ⟨fun | 171 => 56 | 243 => 73 | 246 => 88 | 283 => 84 | 284 => 85 | 285 => 86 | 286 => 87 | 129 => 95 | 317 => 94 | 318 => 96 | 319 => 97 | 320 => 98 | 337 => 102 | 338 => 103 | n => n, fun | 3 => 3 | 9 => 9 | 2 => 2 | 4 => 4 | 171 => 109 | 0 => 0 | 53 => 43 | 37 => 32 | 5 => 5 | 173 => 112 | 212 => 119 | 51 => 86 | 20 => 20 | 213 => 120 | 46 => 94 | 232 => 132 | 233 => 133 | n => n, fun | 17 => 0 | 18 => 1 | 19 => 2 | n => n⟩
theorem Tryz.laysM171 : Go.Proofs.LaysM.n171 Tryz.prog Tryz.laysM171_ren := {
  mixed := by kernel_rfl
  f129 := Tryz.func95.trans (congrArg some (by kernel_rfl))
  f171 := Tryz.func56.trans (congrArg some (by kernel_rfl))
  f243 := Tryz.func73.trans (congrArg some (by kernel_rfl))
  f246 := Tryz.func88.trans (congrArg some (by kernel_rfl))
  f283 := Tryz.func84.trans (congrArg some (by kernel_rfl))
  f284 := Tryz.func85.trans (congrArg some (by kernel_rfl))
  f285 := Tryz.func86.trans (congrArg some (by kernel_rfl))
  f286 := Tryz.func87.trans (congrArg some (by kernel_rfl))
  f317 := Tryz.func94.trans (congrArg some (by kernel_rfl))
  f318 := Tryz.func96.trans (congrArg some (by kernel_rfl))
  f319 := Tryz.func97.trans (congrArg some (by kernel_rfl))
  f320 := Tryz.func98.trans (congrArg some (by kernel_rfl))
  f337 := Tryz.func102.trans (congrArg some (by kernel_rfl))
  f338 := Tryz.func103.trans (congrArg some (by kernel_rfl))
  t0 := Tryz.underlying0
  a0 := Tryz.isAgg0
  z0 := Tryz.sizeOf0
  v0 := Tryz.zeroValue0
  t2 := Tryz.underlying2
  a2 := Tryz.isAgg2
  z2 := Tryz.sizeOf2
  v2 := Tryz.zeroValue2
  t3 := Tryz.underlying3
  a3 := Tryz.isAgg3
  z3 := Tryz.sizeOf3
  v3 := Tryz.zeroValue3
  t4 := Tryz.underlying4
  a4 := Tryz.isAgg4
  z4 := Tryz.sizeOf4
  v4 := Tryz.zeroValue4
  t5 := Tryz.underlying5
  a5 := Tryz.isAgg5
  z5 := Tryz.sizeOf5
  v5 := Tryz.zeroValue5
  t9 := Tryz.underlying9
  a9 := Tryz.isAgg9
  z9 := Tryz.sizeOf9
  v9 := Tryz.zeroValue9
  t20 := Tryz.underlying20
  a20 := Tryz.isAgg20
  z20 := Tryz.sizeOf20
  v20 := Tryz.zeroValue20
  t37 := Tryz.underlying32
  a37 := Tryz.isAgg32
  z37 := Tryz.sizeOf32
  v37 := Tryz.zeroValue32
  t46 := Tryz.underlying94
  a46 := Tryz.isAgg94
  z46 := Tryz.sizeOf94
  v46 := Tryz.zeroValue94
  t51 := Tryz.underlying86
  a51 := Tryz.isAgg86
  z51 := Tryz.sizeOf86
  v51 := Tryz.zeroValue86
  t53 := Tryz.underlying43
  a53 := Tryz.isAgg43
  z53 := Tryz.sizeOf43
  v53 := Tryz.zeroValue43
  t171 := Tryz.underlying109
  a171 := Tryz.isAgg109
  z171 := Tryz.sizeOf109
  v171 := Tryz.zeroValue109
  t173 := Tryz.underlying112
  a173 := Tryz.isAgg112
  z173 := Tryz.sizeOf112
  v173 := Tryz.zeroValue112
  t212 := Tryz.underlying119
  a212 := Tryz.isAgg119
  z212 := Tryz.sizeOf119
  v212 := Tryz.zeroValue119
  t213 := Tryz.underlying120
  a213 := Tryz.isAgg120
  z213 := Tryz.sizeOf120
  t232 := Tryz.underlying132
  a232 := Tryz.isAgg132
  z232 := Tryz.sizeOf132
  v232 := Tryz.zeroValue132
  t233 := Tryz.underlying133
  a233 := Tryz.isAgg133
  z233 := Tryz.sizeOf133
  v233 := Tryz.zeroValue133
  g17 := by kernel_rfl
  g18 := by kernel_rfl
  g19 := by kernel_rfl
  i0 := by kernel_rfl
  i2 := by kernel_rfl
  i3 := by kernel_rfl
  i4 := by kernel_rfl
  i5 := by kernel_rfl
  i9 := by kernel_rfl
  i20 := by kernel_rfl
  i37 := by kernel_rfl
  i46 := by kernel_rfl
  i51 := by kernel_rfl
  i53 := by kernel_rfl
  i171 := by kernel_rfl
  i173 := by kernel_rfl
  i212 := by kernel_rfl
  i232 := by kernel_rfl
  i233 := by kernel_rfl
  m17 := by kernel_rfl
  m18 := by kernel_rfl
  m19 := by kernel_rfl }
def Tryz.lays283_ren : Go.Shelf.Ren := ⟨fun | 283 => 84 | n => n, fun | 3 => 3 | 9 => 9 | 4 => 4 | n => n, fun | n => n⟩
theorem Tryz.lays283 : Go.Proofs.Lays.n283 Tryz.prog Tryz.lays283_ren := {
  mixed := by kernel_rfl
  f283 := Tryz.func84.trans (congrArg some (by kernel_rfl))
  t3 := Tryz.underlying3
  a3 := Tryz.isAgg3
  z3 := Tryz.sizeOf3
  v3 := Tryz.zeroValue3
  t4 := Tryz.underlying4
  a4 := Tryz.isAgg4
  z4 := Tryz.sizeOf4
  v4 := Tryz.zeroValue4
  t9 := Tryz.underlying9
  a9 := Tryz.isAgg9
  z9 := Tryz.sizeOf9
  v9 := Tryz.zeroValue9 }
def Tryz.laysM284_ren : Go.Shelf.Ren := ⟨fun | 284 => 85 | 129 => 95 | 317 => 94 | 318 => 96 | n => n, fun | 53 => 43 | 3 => 3 | 212 => 119 | 0 => 0 | 4 => 4 | 46 => 94 | 5 => 5 | 9 => 9 | n => n, fun | 17 => 0 | n => n⟩
theorem Tryz.laysM284 : Go.Proofs.LaysM.n284 Tryz.prog Tryz.laysM284_ren := {
  mixed := by kernel_rfl
  f129 := Tryz.func95.trans (congrArg some (by kernel_rfl))
  f284 := Tryz.func85.trans (congrArg some (by kernel_rfl))
  f317 := Tryz.func94.trans (congrArg some (by kernel_rfl))
  f318 := Tryz.func96.trans (congrArg some (by kernel_rfl))
  t0 := Tryz.underlying0
  a0 := Tryz.isAgg0
  z0 := Tryz.sizeOf0
  v0 := Tryz.zeroValue0
  t3 := Tryz.underlying3
  a3 := Tryz.isAgg3
  z3 := Tryz.sizeOf3
  v3 := Tryz.zeroValue3
  t4 := Tryz.underlying4
  a4 := Tryz.isAgg4
  z4 := Tryz.sizeOf4
  v4 := Tryz.zeroValue4
  t5 := Tryz.underlying5
  a5 := Tryz.isAgg5
  z5 := Tryz.sizeOf5
  v5 := Tryz.zeroValue5
  t9 := Tryz.underlying9
  a9 := Tryz.isAgg9
  z9 := Tryz.sizeOf9
  v9 := Tryz.zeroValue9
  t46 := Tryz.underlying94
  a46 := Tryz.isAgg94
  z46 := Tryz.sizeOf94
  v46 := Tryz.zeroValue94
  t53 := Tryz.underlying43
  a53 := Tryz.isAgg43
  z53 := Tryz.sizeOf43
  v53 := Tryz.zeroValue43
  t212 := Tryz.underlying119
  a212 := Tryz.isAgg119
  z212 := Tryz.sizeOf119
  v212 := Tryz.zeroValue119
  g17 := by kernel_rfl
  i0 := by kernel_rfl
  i3 := by kernel_rfl
  i4 := by kernel_rfl
  i5 := by kernel_rfl
  i9 := by kernel_rfl
  i46 := by kernel_rfl
  i53 := by kernel_rfl
  i212 := by kernel_rfl
  m17 := by kernel_rfl }
def Tryz.lays285_ren : Go.Shelf.Ren := ⟨fun | 285 => 86 | n => n, fun | 37 => 32 | 53 => 43 | 3 => 3 | 4 => 4 | 51 => 86 | 9 => 9 | 5 => 5 | 0 => 0 | n => n, fun | n => n⟩
theorem Tryz.lays285 : Go.Proofs.Lays.n285 Tryz.prog Tryz.lays285_ren := {
  mixed := by kernel_rfl
  f285 := Tryz.func86.trans (congrArg some (by kernel_rfl))
  t0 := Tryz.underlying0
  a0 := Tryz.isAgg0
  z0 := Tryz.sizeOf0
  v0 := Tryz.zeroValue0
  t3 := Tryz.underlying3
  a3 := Tryz.isAgg3
  z3 := Tryz.sizeOf3
  v3 := Tryz.zeroValue3
  t4 := Tryz.underlying4
  a4 := Tryz.isAgg4
  z4 := Tryz.sizeOf4
  v4 := Tryz.zeroValue4
  t5 := Tryz.underlying5
  a5 := Tryz.isAgg5
  z5 := Tryz.sizeOf5
  v5 := Tryz.zeroValue5
  t9 := Tryz.underlying9
  a9 := Tryz.isAgg9
  z9 := Tryz.sizeOf9
  v9 := Tryz.zeroValue9
  t37 := Tryz.underlying32
  a37 := Tryz.isAgg32
  z37 := Tryz.sizeOf32
  v37 := Tryz.zeroValue32
  t51 := Tryz.underlying86
  a51 := Tryz.isAgg86
  z51 := Tryz.sizeOf86
  v51 := Tryz.zeroValue86
  t53 := Tryz.underlying43
  a53 := Tryz.isAgg43
  z53 := Tryz.sizeOf43
  v53 := Tryz.zeroValue43 }
def Tryz.lays99_ren : Go.Shelf.Ren := ⟨fun | 99 => 63 | 206 => 79 | n => n, fun | 9 => 9 | 4 => 4 | 3 => 3 | n => n, fun | n => n⟩
theorem Tryz.lays99 : Go.Proofs.Lays.n99 Tryz.prog Tryz.lays99_ren := {
  mixed := by kernel_rfl
  f99 := Tryz.func63.trans (congrArg some (by kernel_rfl))
  f206 := Tryz.func79.trans (congrArg some (by kernel_rfl))
  t3 := Tryz.underlying3
  a3 := Tryz.isAgg3
  z3 := Tryz.sizeOf3
  v3 := Tryz.zeroValue3
  t4 := Tryz.underlying4
  a4 := Tryz.isAgg4
  z4 := Tryz.sizeOf4
  v4 := Tryz.zeroValue4
  t9 := Tryz.underlying9
  a9 := Tryz.isAgg9
  z9 := Tryz.sizeOf9
  v9 := Tryz.zeroValue9 }
def Tryz.laysb115_ren : Go.Shelf.Ren := ⟨fun | 115 => 41 | n => n, fun | 37 => 32 | 4 => 4 | 9 => 9 | 5 => 5 | n => n, fun | n => n⟩
theorem Tryz.laysb115 : Go.Proofs.Lays.nb115 Tryz.prog Tryz.laysb115_ren := {
  mixed := by kernel_rfl
  f115 := Tryz.func41.trans (congrArg some (by kernel_rfl))
  t4 := Tryz.underlying4
  a4 := Tryz.isAgg4
  z4 := Tryz.sizeOf4
  v4 := Tryz.zeroValue4
  t9 := Tryz.underlying9
  a9 := Tryz.isAgg9
  z9 := Tryz.sizeOf9
  v9 := Tryz.zeroValue9
  t37 := Tryz.underlying32
  a37 := Tryz.isAgg32
  z37 := Tryz.sizeOf32
  v37 := Tryz.zeroValue32
  t5 := Tryz.underlying5
  a5 := Tryz.isAgg5
  z5 := Tryz.sizeOf5
  v5 := Tryz.zeroValue5 }
def Tryz.lays2n26_ren : Go.Shelf.Ren := ⟨fun | 26 => 62 | 33 => 77 | 34 => 78 | 38 => 93 | n => n, fun | 24 => 75 | 9 => 9 | 3 => 3 | 4 => 4 | 40 => 94 | 0 => 0 | n => n, fun | n => n⟩
theorem Tryz.lays2n26 : Go.Proofs.Lays2.n26 Tryz.prog Tryz.lays2n26_ren := {
  mixed := by kernel_rfl
  f26 := Tryz.func62.trans (congrArg some (by kernel_rfl))
  f33 := Tryz.func77.trans (congrArg some (by kernel_rfl))
  f34 := Tryz.func78.trans (congrArg some (by kernel_rfl))
  f38 := Tryz.func93.trans (congrArg some (by kernel_rfl))
  t0 := Tryz.underlying0
  a0 := Tryz.isAgg0
  z0 := Tryz.sizeOf0
  v0 := Tryz.zeroValue0
  t3 := Tryz.underlying3
  a3 := Tryz.isAgg3
  z3 := Tryz.sizeOf3
  v3 := Tryz.zeroValue3
  t4 := Tryz.underlying4
  a4 := Tryz.isAgg4
  z4 := Tryz.sizeOf4
  v4 := Tryz.zeroValue4
  t9 := Tryz.underlying9
  a9 := Tryz.isAgg9
  z9 := Tryz.sizeOf9
  v9 := Tryz.zeroValue9
  t24 := Tryz.underlying75
  a24 := Tryz.isAgg75
  z24 := Tryz.sizeOf75
  v24 := Tryz.zeroValue75
  t40 := Tryz.underlying94
  a40 := Tryz.isAgg94
  z40 := Tryz.sizeOf94
  v40 := Tryz.zeroValue94 }
end Go.Proofs

/- Decimal numbers, and the names of segments. -/
namespace Go.Proofs.YtikkieaokfailabGreatDoor
open Go.RowKit Go.Joins Go.Sort

def Pw (w : World) : Prop := Lib.TabIs Tryz.prog w "internal/strconv.uint64pow10" .u64 Lib.pow10Tab
theorem Pw.at {w : World} (h : Pw w) : 0 < w.heap.size := by
  unfold Pw Lib.TabIs World.var? at h
  rw [show Tryz.prog.globalNamed "internal/strconv.uint64pow10" = some 0 from by kernel_rfl] at h
  simp only [Option.bind_some] at h
  rcases Nat.lt_or_ge 0 w.heap.size with h' | h'
  · exact h'
  · rw [Array.getElem?_eq_none h'] at h; cases h
theorem Pw.keep {S : Nat → Prop} {w w' : World} (h : Pw w) (hk : Keep S w w') (hs : ¬ S 0) : Pw w' := by
  have hlt := h.at
  unfold Pw Lib.TabIs World.var? at h ⊢
  rw [show Tryz.prog.globalNamed "internal/strconv.uint64pow10" = some 0 from by kernel_rfl] at h ⊢
  simp only [Option.bind_some] at h ⊢
  rw [hk.block 0 hlt hs]
  exact h
theorem Pw.below {w w' : World} (h : Pw w) (hb : Below w.heap.size w w') : Pw w' := h.keep (S := fun _ => False) (Keep.ofBelow hb) (fun h => h)

theorem grow_below (w : World) (k : Nat) (os : Array Obj) : Below w.heap.size w (grow (w.drewN k) os) := by
  refine ⟨rfl, rfl, rfl, ?_, fun j hj => ?_⟩
  · show w.heap.size ≤ (w.heap ++ os).size
    rw [Array.size_append]; omega
  · show (w.heap ++ os)[j]? = w.heap[j]?
    exact Array.getElem?_append_left hj
theorem itoa_any (N : Nat) (hN : N ≤ 9223372036854775807) (w : World) (hP : Pw w) : Calls Tryz.prog 56 #[.int .i64 (N : Int)] w fun e w' => e = .returned (.string ⟨(Lib.decDigits N).toArray⟩) ∧ Below w.heap.size w w' := by
  have h := Any.strconv_Itoa Tryz.laysM171 (N : Int) (by omega) (by omega) w hP
  rw [Lib.itoa_nonneg] at h
  refine h.mono ?_
  rintro e w' ⟨rfl, k, os, rfl⟩
  exact ⟨rfl, grow_below _ _ _⟩

/-- The new block's bytes are a row of zeros. -/
theorem holds_zero0 (w : World) (T : TypeId) (nd : Nat) (hs : nd ≤ 24) : Holds (fun (b : UInt8) => Value.int .u8 (b.toNat : Int)) (w.alloc (.cells Lib.zeros24 T)) w.heap.size 0 (Array.replicate nd (0 : UInt8)) := fun j hj => by
  have hj' : j < nd := by simpa using hj
  refine ⟨?_, World.frozen?_alloc_new _ _ _ _⟩
  rw [World.cell?_alloc_new, Lib.zeros24_at _ (by omega), getElem!_pos _ j hj]
  simp
theorem fin_pos0 (w : World) (o : Obj) (dk : Array UInt8) (k : Nat) : ∃ os, (putRow (fun (b : UInt8) => Value.int .u8 (b.toNat : Int)) (w.alloc o) w.heap.size 0 dk).drewN k = grow (w.drewN k) os := by
  rw [alloc_eq_grow]
  obtain ⟨os', _, e⟩ := putRow_grow_new (fun (b : UInt8) => Value.int .u8 (b.toNat : Int)) w #[o] w.heap.size 0 dk (Nat.le_refl _)
  exact ⟨os', by rw [e]; rfl⟩

set_option maxHeartbeats 6400000 in
set_option maxRecDepth 100000 in
theorem ifmt_any (u : Nat) (hu64 : u < 18446744073709551616) (w : World) (hP : Pw w) : Calls Tryz.prog 72 #[.int .u64 (u : Int), .int .i64 10] w fun e w' => e = .returned (.string ⟨(Lib.decDigits u).toArray⟩) ∧ Below w.heap.size w w' := by
  have hsm := fun (h : u < 100) => Any.internal_strconv_small Tryz.lays283 u h
  have hnd := fun (h : 1 ≤ u) w hP => Any.internal_strconv_numDigits Tryz.laysM284 u h hu64 w hP
  by_cases hs : u < 100
  · have hsm := hsm hs w
    have hlt : (u : Int) < 100 := by omega
    have hcv : IntKind.i64.wrap (u : Int) = (u : Int) := by rw [IntKind.wrap_i64]; omega
    clear hnd
    go_enter Tryz.func72, Tryz.ntmps72
    go_wp2_with (go_at_call 84; refine hsm.mono ?_; rintro e w' ⟨rfl, rfl⟩)
    go_ret
    exact ⟨rfl, Below.refl _ _⟩
  · have hu1 : 1 ≤ u := by omega
    have hnlt : ¬ (u : Int) < 100 := by omega
    have hnd20 : Lib.nDigits u ≤ 20 := by have := Lib.numDigits_eq u hu1 hu64; split at this <;> omega
    have hb3 : Lib.nDigits u ≤ 24 := by omega
    have hal : Tryz.prog.arrayLen 109 = 24 := by kernel_rfl
    obtain ⟨N, HN⟩ : ∃ N, Hid (Lib.nDigits u = N) := ⟨_, rfl⟩
    rw [HN.out] at hb3 hnd20
    have hsl1 : ∀ W, (Instr.sliceAt 109 (.pointer (some ⟨w.heap.size, 0, none⟩)) none (some (.int .i64 (N : Int))) none).run Tryz.prog W = .ok (.slice (some ⟨w.heap.size, 0, none⟩) N 24) W := fun W => by
      rw [run_sliceAt_array_h W 109 ⟨w.heap.size, 0, none⟩ (by simp [Program.arrayLen, Program.elem, Tryz.underlying109]) .i64 (N : Int) (by omega) (by rw [hal]; omega)]
      go_simp
    have hH0 := holds_zero0 w 109 N (by omega)
    have hfmt := Any.internal_strconv_formatBase10 Tryz.lays285 w.heap.size 0 24 u (Array.replicate N 0) (w.alloc (.cells Lib.zeros24 109)) hH0 (by rw [Array.size_replicate, ← HN.out]; exact Lib.lt_pow_nDigits u) hu64 (by rw [Array.size_replicate]; omega)
    rw [Array.size_replicate] at hfmt
    have HH0 := Lib.hid hH0
    have hnd2 := hnd hu1 (w.alloc (.cells Lib.zeros24 109)) (Lib.tabIs_alloc hP _)
    rw [HN.out] at hnd2
    clear hH0 hal hnd hsm
    go_enter Tryz.func72, Tryz.ntmps72
    go_upto_region 6 with (first
      | (go_at_call 85; refine hnd2.mono ?_; rintro e w' ⟨rfl, rfl⟩))
    go_wp2_with (first
      | (go_at_call 86; refine hfmt.mono ?_; rintro e w' ⟨rfl, k, v', dk, rfl, hF⟩
         have hcv : (convert 32 9 (.slice (some ⟨w.heap.size, 0, none⟩) N 24)).run Tryz.prog ((putRow (fun (b : UInt8) => Value.int .u8 (b.toNat : Int)) (w.alloc (.cells Lib.zeros24 109)) w.heap.size 0 dk).drewN k) = .ok (.string ⟨(Lib.decDigits u).toArray⟩) ((putRow (fun (b : UInt8) => Value.int .u8 (b.toNat : Int)) (w.alloc (.cells Lib.zeros24 109)) w.heap.size 0 dk).drewN k) := (by
           have hFu : Lib.FmtInv (Lib.nDigits u) u 0 v' dk := by rw [HN.out]; exact hF
           have h := run_convert_bytes_back (P := Tryz.prog) ((putRow (fun (b : UInt8) => Value.int .u8 (b.toNat : Int)) (w.alloc (.cells Lib.zeros24 109)) w.heap.size 0 dk).drewN k) 32 9 5 ⟨w.heap.size, 0, none⟩ 24 (Lib.decDigits u) Tryz.underlying32 Tryz.underlying5 Tryz.underlying9 (fun j hj => by
             rw [Lib.row_is_numeral hFu j hj, Lib.add_plain, World.cell?_drewN]
             exact cell?_putRow (fun (b : UInt8) => Value.int .u8 (b.toNat : Int)) _ w.heap.size 0 _ dk HH0.out (by rw [hF.size, Array.size_replicate]) j (by rw [hF.size]; rw [Lib.decDigits_length, HN.out] at hj; exact hj))
           rw [Lib.decDigits_length, HN.out] at h
           exact h)))
    go_ret
    obtain ⟨os, eo⟩ := fin_pos0 w (.cells Lib.zeros24 109) dk k
    refine ⟨rfl, ?_⟩
    rw [eo]
    exact grow_below _ _ _
theorem fmt_any (u : Nat) (hu64 : u < 18446744073709551616) (w : World) (hP : Pw w) : Calls Tryz.prog 55 #[.int .u64 (u : Int), .int .i64 10] w fun e w' => e = .returned (.string ⟨(Lib.decDigits u).toArray⟩) ∧ Below w.heap.size w w' := by
  have h := ifmt_any u hu64 w hP
  obtain ⟨T, HT⟩ : ∃ T, (⟨(Lib.decDigits u).toArray⟩ : ByteArray) = T := ⟨_, rfl⟩
  rw [HT] at h ⊢
  go_enter Tryz.func55, Tryz.ntmps55
  go_wp2_with (go_at_call 72; refine h.mono ?_; rintro e w' ⟨rfl, hb⟩)
  go_ret
  exact ⟨rfl, hb⟩

/-- The name of a segment. -/
def segN (g i : Nat) : Nm := ⟨([108, 111, 103, 45] ++ Lib.decDigits g ++ [45] ++ Lib.decDigits i).toArray⟩
theorem dig_len20 (u : Nat) (h : u < 18446744073709551616) : (Lib.decDigits u).length ≤ 20 := by
  rw [Lib.decDigits_length]
  by_cases h1 : 1 ≤ u
  · have := Lib.numDigits_eq u h1 h; split at this <;> omega
  · have : u = 0 := by omega
    subst this
    decide +kernel
theorem add_bytes (a b : List UInt8) : ((⟨a.toArray⟩ : ByteArray) ++ (⟨b.toArray⟩ : ByteArray)) = ⟨(a ++ b).toArray⟩ := by
  apply ByteArray.ext
  rw [ByteArray.data_append]
  simp
set_option maxHeartbeats 1000000 in
theorem segment_any (b off g i : Nat) (hg : g < 18446744073709551616) (hi : i ≤ 9223372036854775807) (w : World) (hP : Pw w) (hc : w.cell? ⟨b, off, none⟩ = some (.int .u64 (g : Int))) :
    Calls Tryz.prog 35 #[.pointer (some ⟨b, off, none⟩), .int .i64 (i : Int)] w fun e w' => e = .returned (.string (segN g i)) ∧ Below w.heap.size w w' := by
  have h1 := fmt_any g hg w hP
  have h2 := fun w hP => itoa_any i hi w hP
  have l1 := dig_len20 g hg
  have l2 := dig_len20 i (by omega)
  obtain ⟨Dg, HG⟩ : ∃ D, Hid (Lib.decDigits g = D) := ⟨_, rfl⟩
  obtain ⟨Di, HI⟩ : ∃ D, Hid (Lib.decDigits i = D) := ⟨_, rfl⟩
  have hs : segN g i = ⟨([108, 111, 103, 45] ++ Dg ++ [45] ++ Di).toArray⟩ := by unfold segN; rw [HG.out, HI.out]
  rw [HG.out] at h1 l1
  rw [HI.out] at l2
  simp only [HI.out] at h2
  rw [hs]
  clear hs
  obtain ⟨T1, HT1⟩ : ∃ T, Hid ((⟨Dg.toArray⟩ : ByteArray) = T) := ⟨_, rfl⟩
  obtain ⟨T2, HT2⟩ : ∃ T, Hid ((⟨Di.toArray⟩ : ByteArray) = T) := ⟨_, rfl⟩
  have s1 : T1.size ≤ 20 := by rw [← HT1.out]; show Dg.toArray.size ≤ 20; simpa using l1
  have s2 : T2.size ≤ 20 := by rw [← HT2.out]; show Di.toArray.size ≤ 20; simpa using l2
  have HE : Hid (((⟨#[108, 111, 103, 45]⟩ : ByteArray) ++ T1) ++ (⟨#[45]⟩ : ByteArray) ++ T2 = ⟨([108, 111, 103, 45] ++ Dg ++ [45] ++ Di).toArray⟩) := by
    show _ = _
    rw [← HT1.out, ← HT2.out]
    have e1 : (⟨#[108, 111, 103, 45]⟩ : ByteArray) = ⟨([108, 111, 103, 45] : List UInt8).toArray⟩ := rfl
    have e2 : (⟨#[45]⟩ : ByteArray) = ⟨([45] : List UInt8).toArray⟩ := rfl
    rw [e1, e2, add_bytes, add_bytes, add_bytes]
  rw [HT1.out] at h1
  simp only [HT2.out] at h2
  rw [← HE.out]
  clear l1 l2 HE
  go_enter Tryz.func35, Tryz.ntmps35
  go_wp2_with (first
    | (go_at_call 55; refine h1.mono ?_; rintro e w1 ⟨rfl, hb1⟩)
    | (go_at_call 56; refine (h2 _ (hP.below hb1)).mono ?_; rintro e w2 ⟨rfl, hb2⟩))
  go_ret
  exact ⟨rfl, hb1.trans (hb2.mono hb1.size)⟩

/-- The table lies below all that the log has. -/
structure Pf (w : World) (F : Nat → Prop) (lb : Nat) : Prop where
  pw : Pw w
  fl : ∀ i, F i → 0 < i
  ll : 0 < lb
theorem Pf.next {w w' : World} {F F' : Nat → Prop} {lb : Nat} (h : Pf w F lb) (hk : Keep (fun i => F i ∨ i = lb) w w') (hF : ∀ i, F' i → F i ∨ w.heap.size ≤ i) : Pf w' F' lb := by
  refine ⟨h.pw.keep hk (fun hs => ?_), fun i hi => ?_, h.ll⟩
  · rcases hs with hs | hs
    · have := h.fl _ hs; omega
    · have := h.ll; omega
  · rcases hF i hi with h1 | h1
    · exact h.fl i h1
    · have := h.pw.at; omega
theorem Pf.below {w w' : World} {F : Nat → Prop} {lb : Nat} (h : Pf w F lb) (hb : Below w.heap.size w w') : Pf w' F lb := ⟨h.pw.below hb, h.fl, h.ll⟩

end Go.Proofs.YtikkieaokfailabGreatDoor

/- What the rows' list gives: Go's table of powers of ten. -/
namespace Go.Proofs.YtikkieaokfailabGreatDoor
open Go.ChangeShapes Go.WideShapes Go.ChangeAt Go.RowKit

theorem gPw : Tryz.prog.globalNamed "internal/strconv.uint64pow10" = some 0 := by kernel_rfl
theorem gPwType : (Tryz.prog.globals[0]?).map (·.type) = some 119 := by kernel_rfl
theorem cellsPw : Tryz.prog.cellsOf 119 = 20 := by kernel_rfl
theorem cellsU64 : Tryz.prog.cellsOf 43 = 1 := by kernel_rfl
theorem pw_eq : (Rows.laid_internal_strconv_uint64pow10 : DataW Unit) = Lib.tabData .u64 Lib.pow10Tab := rfl
theorem pw_in {enc : TypeId × Value → Unit} {W : World} {base : Nat} {sp : Nat → Bool} {held : Bool} {cs : Array Value} {fuel : Nat} {p : List MemPlace} (hv : W.var? Tryz.prog "internal/strconv.uint64pow10" = some cs) (hd : DataW.trod enc Tryz.prog W base sp held fuel 119 cs.toList = some (Rows.laid_internal_strconv_uint64pow10, p)) : Pw W := by
  rw [pw_eq] at hd
  have hc := Lib.cells_of_tab Tryz.underlying119 Tryz.underlying43 cellsU64 cellsPw hd
  unfold Pw Lib.TabIs
  rw [hv, ← hc]
theorem pw_of {W : World} (h : laidMetH Tryz.prog [("math/bits.deBruijn32tab", Rows.laid_math_bits_deBruijn32tab), ("math/bits.deBruijn64tab", Rows.laid_math_bits_deBruijn64tab), ("internal/strconv.uint64pow10", Rows.laid_internal_strconv_uint64pow10)] W) : Pw W := by
  have h' : laidMet Tryz.prog [("math/bits.deBruijn32tab", Rows.laid_math_bits_deBruijn32tab), ("math/bits.deBruijn64tab", Rows.laid_math_bits_deBruijn64tab), ("internal/strconv.uint64pow10", Rows.laid_internal_strconv_uint64pow10)] W := h
  obtain ⟨ps, ⟨g1, t1, cs1, fuel1, p1, q1, hg1, ht1, hv1, hd1, hr1, _⟩, _⟩ := h'
  obtain ⟨g2, t2, cs2, fuel2, p2, q2, hg2, ht2, hv2, hd2, hr2, _⟩ := hr1
  obtain ⟨g3, t3, cs3, fuel3, p3, q3, hg3, ht3, hv3, hd3, _, _⟩ := hr2
  obtain rfl := Option.some.inj (gPw.symm.trans hg3)
  obtain rfl := Option.some.inj (gPwType.symm.trans ht3)
  exact pw_in hv3 hd3

end Go.Proofs.YtikkieaokfailabGreatDoor

/- A region that draws its order, in whatever order: each operation's answer is told by a fact that lasts, so that no order counts. -/
namespace Go.Proofs.YtikkieaokfailabGreatDoor
open Go.RowKit

section
variable {P : Program} {ops : Array Oper} {Q : Exit → Act → World → Prop}

/-- The slots that operations of U write. -/
def uDst (ops : Array Oper) (U : List Nat) : List Nat := U.filterMap fun i => (ops[i]?).bind (·.dst)
/-- What the law asks of the region's text: U's operations wait for elder ones of U alone and write slots of their own; every other one waits for all of U. -/
def aoOk (ops : Array Oper) (U : List Nat) : Bool :=
  U.all (fun u => match ops[u]? with
    | some o => o.dst.isSome && o.after.all (fun e => !Region.binds .any e || (decide (e.on < u) && U.contains e.on))
    | none => false) &&
  (List.range ops.size).all (fun t => U.contains t || (match ops[t]? with
    | some o => U.all (fun u => o.after.any (fun e => Region.binds .any e && e.on == u))
    | none => true)) &&
  decide (uDst ops U).Nodup && decide U.Nodup

/-- A fact that lasts while memory only grows. -/
def Lasts (g : Value → World → Prop) : Prop := ∀ v w w', Below w.heap.size w w' → g v w → g v w'

/-- So far: U's listed operations have answered as their facts say; all other slots are as they were. -/
structure AO (ops : Array Oper) (U : List Nat) (G : Nat → Value → World → Prop) (W : World) (tm0 : Array Value) (df : List Deferred) (listed : Array Bool) (a : Act) (w : World) : Prop where
  s : Below W.heap.size W w
  df : a.defers = df
  sz : a.tmps.size = tm0.size
  same : ∀ d, d ∉ uDst ops U → a.tmps.getD d undef = tm0.getD d undef
  got : ∀ i o d, listed.getD i false = true → i ∈ U → ops[i]? = some o → o.dst = some d → G i (a.tmps.getD d undef) w

/-- What operation i owes: in any frame and world with its facts ahead. -/
def Ob (P : Program) (ops : Array Oper) (Q : Exit → Act → World → Prop) (U : List Nat) (G : Nat → Value → World → Prop) (W : World) (tm0 : Array Value) (df : List Deferred) (i : Nat) : Prop :=
  ∀ (tm : Array Value) (w : World), Below W.heap.size W w → tm.size = tm0.size → (∀ d, d ∉ uDst ops U → tm.getD d undef = tm0.getD d undef) →
    (∀ j o d, j ∈ U → ops[j]? = some o → o.dst = some d → (∃ oi, ops[i]? = some oi ∧ oi.after.any (fun e => Region.binds .any e && e.on == j) = true) → G j (tm.getD d undef) w) →
    ∃ o d, ops[i]? = some o ∧ o.dst = some d ∧ wpOp P ops Q i (fun a' w' => ∃ v, a' = { tmps := tm.setIfInBounds d v, defers := df } ∧ d < tm.size ∧ G i v w' ∧ Below w.heap.size w w') { tmps := tm, defers := df } w

def AllIn (U : List Nat) (p : Nat → Prop) : Prop := ∀ i ∈ U, p i
theorem allIn_nil {p : Nat → Prop} : AllIn [] p := fun _ h => by cases h
theorem allIn_cons {p : Nat → Prop} {i : Nat} {U : List Nat} (h : p i) (t : AllIn U p) : AllIn (i :: U) p := fun j hj => by
  rcases List.mem_cons.1 hj with e | e
  · subst e; exact h
  · exact t j e

theorem getD_set_self {l : Array Bool} {i : Nat} (h : i < l.size) : (l.setIfInBounds i true).getD i false = true := by simp [Array.getD, h]

theorem val_set_ne {tm : Array Value} {d d' : Nat} {v u : Value} (h : d ≠ d') : (tm.setIfInBounds d v).getD d' u = tm.getD d' u := by
  rw [Array.getD_eq_getD_getElem?, Array.getD_eq_getD_getElem?, Array.getElem?_setIfInBounds_ne h]
def unl (listed : Array Bool) (u : Nat) : Bool := !listed.getD u false
theorem unl_set {listed : Array Bool} {i : Nat} (hi : i < listed.size) (u : Nat) : unl (listed.setIfInBounds i true) u = (unl listed u && decide (u ≠ i)) := by
  unfold unl
  by_cases e : u = i
  · subst e; rw [getD_set_self hi]; simp
  · rw [getD_set_ne false (fun h => e h.symm)]; simp [e]
theorem cnt_gone (p : Nat → Bool) (i : Nat) : ∀ U : List Nat, i ∉ U → U.countP (fun u => p u && decide (u ≠ i)) = U.countP p
  | [], _ => rfl
  | u :: U, h => by
    have h1 : u ≠ i := fun e => h (by simp [e])
    have h2 : i ∉ U := fun e => h (by simp [e])
    rw [List.countP_cons, List.countP_cons, cnt_gone p i U h2]
    simp [h1]
theorem cnt_less (p : Nat → Bool) (i : Nat) (hp : p i = true) : ∀ U : List Nat, U.Nodup → i ∈ U → U.countP (fun u => p u && decide (u ≠ i)) + 1 = U.countP p
  | [], _, h => by cases h
  | u :: U, hd, h => by
    rw [List.nodup_cons] at hd
    rw [List.countP_cons, List.countP_cons]
    by_cases e : u = i
    · subst e
      rw [cnt_gone p u U hd.1]
      simp [hp]
    · have h2 : i ∈ U := (List.mem_cons.1 h).resolve_left (fun q => e q.symm)
      have ih := cnt_less p i hp U hd.2 h2
      have hb : (p u && decide (u ≠ i)) = p u := by simp [e]
      simp only [hb]
      omega

theorem ao_parts {U : List Nat} (h : aoOk ops U = true) : (∀ u ∈ U, ∃ o d, ops[u]? = some o ∧ o.dst = some d ∧ ∀ e ∈ o.after, Region.binds .any e = true → e.on < u ∧ e.on ∈ U) ∧
    (∀ t o, ops[t]? = some o → t ∉ U → ∀ u ∈ U, ∃ e ∈ o.after, Region.binds .any e = true ∧ e.on = u) ∧ (uDst ops U).Nodup ∧ U.Nodup := by
  unfold aoOk at h
  rw [Bool.and_eq_true, Bool.and_eq_true, Bool.and_eq_true] at h
  obtain ⟨⟨⟨h1, h2⟩, h3⟩, h4⟩ := h
  refine ⟨fun u hu => ?_, fun t o ho ht u hu => ?_, of_decide_eq_true h3, of_decide_eq_true h4⟩
  · have := List.all_eq_true.1 h1 u hu
    cases ho : ops[u]? with
    | none => simp [ho] at this
    | some o =>
      simp only [ho, Bool.and_eq_true] at this
      obtain ⟨d, hd⟩ := Option.isSome_iff_exists.1 this.1
      refine ⟨o, d, rfl, hd, fun e he hb => ?_⟩
      have h5 := Array.all_eq_true'.1 this.2 e he
      simp only [hb, Bool.not_true, Bool.false_or, Bool.and_eq_true, decide_eq_true_eq] at h5
      exact ⟨h5.1, List.contains_iff_mem.1 h5.2⟩
  · have hlt : t < ops.size := (Array.getElem?_eq_some_iff.1 ho).1
    have := List.all_eq_true.1 h2 t (List.mem_range.2 hlt)
    rw [Bool.or_eq_true] at this
    rcases this with q | q
    · exact absurd (List.contains_iff_mem.1 q) ht
    · rw [ho] at q
      have h5 := List.all_eq_true.1 q u hu
      obtain ⟨e, he, hb⟩ := Array.any_eq_true'.1 h5
      simp only [Bool.and_eq_true, beq_iff_eq] at hb
      exact ⟨e, he, hb.1, hb.2⟩

theorem mem_uDst {U : List Nat} {i : Nat} {o : Oper} {d : Nat} (hi : i ∈ U) (ho : ops[i]? = some o) (hd : o.dst = some d) : d ∈ uDst ops U :=
  List.mem_filterMap.2 ⟨i, hi, by rw [ho]; exact hd⟩
/-- Two operations of U do not write one slot. -/
theorem dst_ne : ∀ {U : List Nat}, (uDst ops U).Nodup → ∀ {i j : Nat} {oi oj : Oper} {d : Nat}, i ∈ U → j ∈ U → ops[i]? = some oi → ops[j]? = some oj → oi.dst = some d → oj.dst = some d → i = j
  | [], _, _, _, _, _, _, h, _, _, _, _, _ => by cases h
  | u :: U, hn, i, j, oi, oj, d, hi, hj, hoi, hoj, hdi, hdj => by
    have hn' : (uDst ops U).Nodup ∧ ∀ d', (ops[u]?).bind (·.dst) = some d' → d' ∉ uDst ops U := by
      unfold uDst at hn ⊢
      rw [List.filterMap_cons] at hn
      cases hq : (ops[u]?).bind (·.dst) with
      | none => rw [hq] at hn; exact ⟨hn, fun _ h => by cases h⟩
      | some d' =>
        rw [hq] at hn
        rw [List.nodup_cons] at hn
        exact ⟨hn.2, fun d'' h => by cases h; exact hn.1⟩
    rcases List.mem_cons.1 hi with e | e
    · rcases List.mem_cons.1 hj with e' | e'
      · rw [e, e']
      · subst e
        exact absurd (mem_uDst e' hoj hdj) (hn'.2 d (by rw [hoi]; exact hdi))
    · rcases List.mem_cons.1 hj with e' | e'
      · subst e'
        exact absurd (mem_uDst e hoi hdi) (hn'.2 d (by rw [hoj]; exact hdj))
      · exact dst_ne hn'.1 e e' hoi hoj hdi hdj

/-- All of U listed, and nothing else. -/
def listU (n : Nat) (U : List Nat) : Array Bool := ((List.range n).map U.contains).toArray

theorem wpAny_facts {U : List Nat} {G : Nat → Value → World → Prop} {W : World} {tm0 : Array Value} {df : List Deferred} {f' : Nat} (hok : aoOk ops U = true) (hG : ∀ i, Lasts (G i)) (hob : AllIn U (Ob P ops Q U G W tm0 df))
    (hfin : ∀ a w, AO ops U G W tm0 df (listU ops.size U) a w → wpAnyT P .any ops Q (fun _ => True) [] f' (listU ops.size U) a w) :
    ∀ (m : Nat) (listed : Array Bool) (a : Act) (w : World), listed.size = ops.size → (∀ i, listed.getD i false = true → i ∈ U) → U.countP (unl listed) = m → AO ops U G W tm0 df listed a w →
      wpAnyT P .any ops Q (fun _ => True) [] (m + f') listed a w := by
  obtain ⟨hdep, hlate, hnd, hUn⟩ := ao_parts hok
  intro m
  induction m with
  | zero =>
    intro listed a w hsz hsub hcnt hA
    have hall : ∀ u ∈ U, listed.getD u false = true := fun u hu => by
      have := List.countP_eq_zero.1 hcnt u hu
      simpa [unl] using this
    have e : listed = listU ops.size U := by
      refine Array.ext (by rw [hsz]; simp [listU]) fun i h1 h2 => ?_
      have hg : listed.getD i false = listed[i] := by simp [Array.getD, h1]
      simp only [listU, List.getElem_toArray, List.getElem_map, List.getElem_range]
      by_cases hu : i ∈ U
      · rw [← hg, hall i hu]; exact (List.contains_iff_mem.2 hu).symm
      · have : listed[i] = false := by
          cases hq : listed[i] with
          | false => rfl
          | true => exact absurd (hsub i (by rw [hg]; exact hq)) hu
        rw [this]
        cases hq : U.contains i with
        | false => rfl
        | true => exact absurd (List.contains_iff_mem.1 hq) hu
    rw [Nat.zero_add]
    subst e
    exact hfin a w hA
  | succ m ih =>
    intro listed a w hsz hsub hcnt hA
    have hone : ∃ u ∈ U, listed.getD u false = false := by
      have : 0 < U.countP (unl listed) := by omega
      obtain ⟨u, hu, hp⟩ := List.countP_pos_iff.1 this
      exact ⟨u, hu, by simpa [unl] using hp⟩
    have hltU : ∀ u ∈ U, u < listed.size := fun u hu => by
      obtain ⟨o, d, ho, _⟩ := hdep u hu
      rw [hsz]; exact (Array.getElem?_eq_some_iff.1 ho).1
    have htf : ∀ u, u < listed.size → listed.getD u true = listed.getD u false := fun u hu => by simp [Array.getD, hu]
    have hready : ∀ k u, u ≤ k → u ∈ U → listed.getD u false = false → Region.ready .any ops listed ≠ [] := by
      intro k
      induction k with
      | zero =>
        intro u hk hu hf hr
        obtain ⟨o, d, ho, hd, hde⟩ := hdep u hu
        have : u ∈ Region.ready .any ops listed := mem_ready.2 ⟨by rw [htf u (hltU u hu)]; exact hf, o, ho, fun e he hb => by have := (hde e he hb).1; omega⟩
        rw [hr] at this; cases this
      | succ k ihk =>
        intro u hk hu hf hr
        obtain ⟨o, d, ho, hd, hde⟩ := hdep u hu
        have : u ∈ Region.ready .any ops listed := mem_ready.2 ⟨by rw [htf u (hltU u hu)]; exact hf, o, ho, fun e he hb => by
          cases hq : listed.getD e.on false with
          | true => rfl
          | false => exact absurd hr (ihk e.on (by have := (hde e he hb).1; omega) (hde e he hb).2 hq)⟩
        rw [hr] at this; cases this
    rw [show m + 1 + f' = (m + f') + 1 from by omega]
    refine ⟨fun hr => ?_, fun i hi => ?_⟩
    · obtain ⟨u, hu, hf⟩ := hone
      exact absurd hr (hready u u (Nat.le_refl _) hu hf)
    · obtain ⟨hiun, oi, hoi, hiall⟩ := mem_ready.1 hi
      have hiU : i ∈ U := by
        refine Classical.byContradiction fun hn => ?_
        obtain ⟨u, hu, hf⟩ := hone
        obtain ⟨e, he, hb, hon⟩ := hlate i oi hoi hn u hu
        have := hiall e he hb
        rw [hon, hf] at this; cases this
      have hif : listed.getD i false = false := by rw [← htf i (hltU i hiU)]; exact hiun
      obtain ⟨atm, adf⟩ := a
      have hadf : adf = df := hA.df
      subst hadf
      obtain ⟨o, d, ho, hd, hwp⟩ := hob i hiU atm w hA.s hA.sz hA.same (fun j o d hj ho hd hdj => by
        obtain ⟨oi', hoi', hany⟩ := hdj
        rw [hoi] at hoi'
        cases hoi'
        obtain ⟨e, he, hb⟩ := Array.any_eq_true'.1 hany
        simp only [Bool.and_eq_true, beq_iff_eq] at hb
        exact hA.got j o d (by rw [← hb.2]; exact hiall e he hb.1) hj ho hd)
      refine wpOp_mono (fun a' w' hk => ?_) hwp
      obtain ⟨v, rfl, hdl, hgv, hbw⟩ := hk
      refine ⟨fun _ => trivial, ih _ _ _ (by rw [Array.size_setIfInBounds]; exact hsz) (fun j hj => ?_) ?_ ⟨?_, rfl, ?_, fun d' hd' => ?_, fun j oj d' hj hjU hoj hdj => ?_⟩⟩
      · by_cases e : i = j
        · subst e; exact hiU
        · rw [getD_set_ne false e] at hj; exact hsub j hj
      · have h1 : (unl (listed.setIfInBounds i true)) = fun u => unl listed u && decide (u ≠ i) := funext fun u => unl_set (hltU i hiU) u
        rw [h1]
        have := cnt_less (unl listed) i (by simp [unl, hif]) U hUn hiU
        omega
      · exact hA.s.trans (hbw.mono hA.s.size)
      · rw [Array.size_setIfInBounds]; exact hA.sz
      · have hne : d ≠ d' := fun e => hd' (by rw [← e]; exact mem_uDst hiU ho hd)
        exact (val_set_ne hne).trans (hA.same d' hd')
      · by_cases e : i = j
        · subst e
          rw [ho] at hoj
          cases hoj
          rw [hd] at hdj
          cases hdj
          have : (atm.setIfInBounds d v).getD d undef = v := by simp [Array.getD, hdl]
          rw [this]; exact hgv
        · rw [getD_set_ne false e] at hj
          have hne : d ≠ d' := fun e' => e (dst_ne hnd hiU hjU ho hoj hd (by rw [e']; exact hdj))
          have hg := hG j _ _ _ hbw (hA.got j oj d' hj hjU hoj hdj)
          have hs : (atm.setIfInBounds d v).getD d' undef = atm.getD d' undef := val_set_ne hne
          rw [hs]; exact hg

/-- The law: U's operations in any order, then the rest. -/
theorem wp_region_facts {id : Nat} {w : World} {tm0 : Array Value} {df : List Deferred} (U : List Nat) (G : Nat → Value → World → Prop) (n f' : Nat) (hm : P.follows .mixedOrders = true) (hn : ops.size = n) (hlen : U.length + f' = n) (hok : aoOk ops U = true) (hG : ∀ i, Lasts (G i))
    (hob : AllIn U (Ob P ops Q U G w.drew tm0 df))
    (hfin : ∀ a w', AO ops U G w.drew tm0 df (listU n U) a w' → LX P ops Q (fun _ => True) [] f' (listU n U) a w') : (Code.region id ops true).wp P Q { tmps := tm0, defers := df } w := by
  subst hn
  refine wp_region_any hm (wpAny_of_late (S := fun _ => True) (T := []) _ _ _ _ ?_)
  suffices key : wpAnyT P .any ops Q (fun _ => True) [] (U.length + f') (Array.replicate ops.size false) { tmps := tm0, defers := df } w.drew by rw [hlen] at key; exact key
  refine wpAny_facts hok hG hob (fun a w' h => (hfin a w' h).out) U.length (Array.replicate ops.size false) { tmps := tm0, defers := df } w.drew (by simp) (fun i hi => ?_) ?_ ⟨Below.refl _ _, rfl, rfl, fun d _ => rfl, fun i o d hi => ?_⟩
  · exfalso
    simp only [Array.getD, Array.size_replicate, Array.getInternal_eq_getElem] at hi
    split at hi
    · simp at hi
    · cases hi
  · rw [List.countP_eq_length]
    intro u _
    simp only [unl, Array.getD, Array.size_replicate]
    split <;> simp
  · exfalso
    simp only [Array.getD, Array.size_replicate, Array.getInternal_eq_getElem] at hi
    split at hi
    · simp at hi
    · cases hi

/-! ### What an operation owes, by its kind -/
variable {U : List Nat} {G : Nat → Value → World → Prop} {W : World} {tm0 : Array Value} {df : List Deferred}

/-- The facts ahead of operation i. -/
structure Ahd (ops : Array Oper) (U : List Nat) (G : Nat → Value → World → Prop) (W : World) (tm0 : Array Value) (i : Nat) (tm : Array Value) (w : World) : Prop where
  s : Below W.heap.size W w
  sz : tm.size = tm0.size
  same : ∀ d, d ∉ uDst ops U → tm.getD d undef = tm0.getD d undef
  dep : ∀ j o d, j ∈ U → ops[j]? = some o → o.dst = some d → (∃ oi, ops[i]? = some oi ∧ oi.after.any (fun e => Region.binds .any e && e.on == j) = true) → G j (tm.getD d undef) w

theorem ob_val (i : Nat) {o : Oper} {d : Tmp} (ho : ops[i]? = some o) (hd : o.dst = some d) (hdl : d < tm0.size)
    (h : ∀ tm w, Ahd ops U G W tm0 i tm w → Region.wanted o (yielded ops tm) = true ∧ ∃ v w', (execOp (Act.eval { tmps := tm, defers := df }) o).run P w = .ok (.value v) w' ∧ G i v w' ∧ Below w.heap.size w w') : Ob P ops Q U G W tm0 df i := by
  intro tm w hS hsz hsame hdep
  obtain ⟨hw, v, w', hrun, hg, hb⟩ := h tm w ⟨hS, hsz, hsame, hdep⟩
  refine ⟨o, d, ho, hd, ?_⟩
  unfold wpOp
  rw [ho]
  simp only
  rw [if_pos hw]
  refine .inl ?_
  unfold Oper.wp
  rw [hrun]
  refine ⟨v, ?_, by rw [hsz]; exact hdl, hg, hb⟩
  show Act.put { tmps := tm, defers := df } o.dst v = _
  rw [hd, put_some]

theorem ob_call (i : Nat) {o : Oper} {d : Tmp} (ho : ops[i]? = some o) (hd : o.dst = some d) (hdl : d < tm0.size)
    (h : ∀ tm w, Ahd ops U G W tm0 i tm w → Region.wanted o (yielded ops tm) = true ∧ ∃ f args, (execOp (Act.eval { tmps := tm, defers := df }) o).run P w = .ok (.enter f args) w ∧ Calls P f args w fun e w' => ∃ v, e = .returned v ∧ G i v w' ∧ Below w.heap.size w w') : Ob P ops Q U G W tm0 df i := by
  intro tm w hS hsz hsame hdep
  obtain ⟨hw, f, args, hrun, hc⟩ := h tm w ⟨hS, hsz, hsame, hdep⟩
  refine ⟨o, d, ho, hd, ?_⟩
  unfold wpOp
  rw [ho]
  simp only
  rw [if_pos hw]
  refine .inl ?_
  unfold Oper.wp
  rw [hrun, Oper.upon_enter]
  refine hc.mono ?_
  rintro e w' ⟨v, rfl, hg, hb⟩
  refine ⟨v, ?_, by rw [hsz]; exact hdl, hg, hb⟩
  show Act.put { tmps := tm, defers := df } o.dst v = _
  rw [hd, put_some]

/-- A frame, slot by slot. -/
theorem eta_arr (tm : Array Value) (n : Nat) (h : tm.size = n) : tm = ((List.range n).map fun d => tm.getD d undef).toArray := by
  subst h
  refine Array.ext (by simp) fun i h1 h2 => ?_
  simp [Array.getD, h1]
/-- A frame is the elder one with the slots of D as they are. -/
theorem frame_sets (tm : Array Value) : ∀ (D : List Nat) (tm0 : Array Value), tm.size = tm0.size → (∀ d, d ∉ D → tm.getD d undef = tm0.getD d undef) → tm = D.foldl (fun t d => t.setIfInBounds d (tm.getD d undef)) tm0
  | [], tm0, hs, h => by
    rw [List.foldl_nil]
    refine Array.ext hs fun i h1 h2 => ?_
    have := h i (by simp)
    rw [Array.getD_eq_getD_getElem?, Array.getD_eq_getD_getElem?, Array.getElem?_eq_getElem h1, Array.getElem?_eq_getElem h2] at this
    exact this
  | d :: D, tm0, hs, h => by
    rw [List.foldl_cons]
    refine frame_sets tm D (tm0.setIfInBounds d (tm.getD d undef)) (by rw [Array.size_setIfInBounds]; exact hs) fun e he => ?_
    by_cases hde : d = e
    · subst hde
      rcases Nat.lt_or_ge d tm0.size with q | q
      · have e1 : (tm0.setIfInBounds d (tm.getD d undef)).getD d undef = tm.getD d undef := by
          generalize tm.getD d undef = v
          rw [Array.getD_eq_getD_getElem?, Array.getElem?_setIfInBounds_self_of_lt q]; rfl
        exact e1.symm
      · have e1 : (tm0.setIfInBounds d (tm.getD d undef)).getD d undef = undef := by
          generalize tm.getD d undef = v
          rw [Array.getD_eq_getD_getElem?, Array.getElem?_eq_none (by rw [Array.size_setIfInBounds]; exact q)]; rfl
        rw [e1, Array.getD_eq_getD_getElem?, Array.getElem?_eq_none (by omega)]; rfl
    · rw [val_set_ne hde]
      exact h e (by simp [Ne.symm hde, he])
/-- The guard's answer, out of its fact. -/
theorem wanted_of {o oj : Oper} {j dj : Nat} {b : Bool} {tm : Array Value} (hg : o.guard = some (j, b)) (hoj : ops[j]? = some oj) (hdj : oj.dst = some dj) (hl : dj < tm.size) (hv : tm.getD dj undef = .bool b) : Region.wanted o (yielded ops tm) = true := by
  have hq : tm[dj]? = some (.bool b) := by
    rw [Array.getElem?_eq_getElem hl]
    simpa [Array.getD, hl] using hv
  simp [Region.wanted, hg, yielded, hoj, hdj, hq]
theorem wanted_none {o : Oper} {tm : Array Value} (hg : o.guard = none) : Region.wanted o (yielded ops tm) = true := by simp [Region.wanted, hg]

def fEq (v0 : Value) : Value → World → Prop := fun v _ => v = v0
def Gl (l : List (Value → World → Prop)) (i : Nat) : Value → World → Prop := l.getD i (fun _ _ => True)
theorem lasts_eq (v0 : Value) : Lasts (fEq v0) := fun _ _ _ _ h => h
theorem lasts_list {l : List (Value → World → Prop)} (h : ∀ g ∈ l, Lasts g) (i : Nat) : Lasts (Gl l i) := by
  unfold Gl
  rcases Nat.lt_or_ge i l.length with q | q
  · rw [List.getD, List.getElem?_eq_getElem q]; exact h _ (List.getElem_mem q)
  · rw [List.getD, List.getElem?_eq_none q]; exact fun _ _ _ _ _ => trivial

end
end Go.Proofs.YtikkieaokfailabGreatDoor

/- Facts of bytes for a region in whatever order. -/
namespace Go.Proofs.YtikkieaokfailabGreatDoor
open Go.RowKit

/-- Bytes that read as X, at most m. -/
def fRd (X : List Int) (m : Nat) : Value → World → Prop := fun v w => ∃ a n c, v = .slice a n c ∧ n ≤ m ∧ Rd w a n c X
/-- A new empty slice of bytes. -/
def fEmp : Value → World → Prop := fun v w => ∃ g, v = .slice (some ⟨g, 0, none⟩) 0 0 ∧ w.heap[g]? = some (.cells #[] 5 (0, 0))
theorem lasts_rd (X : List Int) (m : Nat) : Lasts (fRd X m) := fun _ _ _ hb ⟨a, n, c, h1, h2, h3⟩ => ⟨a, n, c, h1, h2, h3.carry (Nat.le_refl _) hb⟩
theorem lasts_emp : Lasts fEmp := fun _ _ _ hb ⟨g, h1, h2⟩ => ⟨g, h1, (hb.block g (Array.getElem?_eq_some_iff.1 h2).1).trans h2⟩

set_option maxRecDepth 100000 in
/-- append([]byte{}, x...), at its run: nothing old is touched. -/
theorem run_appE (w : World) (ty : TypeId) (g : Nat) (hg : w.heap[g]? = some (.cells #[] 5 (0, 0))) (ab : Option Addr) (nb cb : Nat) (ys : List Int) (hR : Rd w ab nb cb ys) (hn : nb ≤ 1000000) :
    ∃ a' c' w', (Builtin.append_ #[32, 32] ty #[.slice (some ⟨g, 0, none⟩) 0 0, .slice ab nb cb]).run Tryz.prog w = .ok (.slice a' nb c') w' ∧ Rd w' a' nb c' ys ∧ Below w.heap.size w w' := by
  obtain ⟨i0, hi, hz0, hz1, hz2⟩ := info_parts Tryz.info5
  have hown : w.ownsRow 0 5 1 (.slice (some ⟨g, 0, none⟩) 0 0) 0 (bc []) := ⟨rfl, .inr ⟨g, 0, #[], rfl, Nat.zero_le _, hg, Nat.le_refl _, by unfold maxLen; omega, rfl, rfl⟩⟩
  cases ab with
  | none =>
    obtain ⟨rfl, rfl⟩ := rd_noneK hR rfl
    have hys : ys = [] := List.eq_nil_of_length_eq_zero hR.len
    subst hys
    exact ⟨_, _, w, run_append_owned_none w 0 32 ty 5 i0 1 Tryz.underlying32 hi _ 0 (bc []) hown, ⟨rfl, Nat.le_refl _, by unfold maxLen; omega, (fun e => by cases e), Bd.nil, fun _ _ j hj => by omega⟩, Below.refl _ _⟩
  | some ad =>
    by_cases h0 : nb = 0
    · subst h0
      have hys : ys = [] := List.eq_nil_of_length_eq_zero hR.len
      subst hys
      have hr2 := run_append_room (P := Tryz.prog) w 32 ty 5 i0 Tryz.underlying32 hi g 0 0 #[] hg ad 0 cb (bc []) (by simp [bc]) (fun j u hj => by simp [bc] at hj) (fun u hu => by simp [bc] at hu) (by omega) (by simp [bc])
      refine ⟨_, _, _, hr2, ⟨rfl, Nat.le_refl _, by unfold maxLen; omega, (fun e => by cases e), Bd.nil, fun _ _ j hj => by omega⟩, ?_⟩
      exact ⟨rfl, rfl, rfl, by simp, fun k hk => by
        by_cases e : k = g
        · subst e; rw [setRow_heap w k _ _ 5 (0, 0) hg, hg]; simp [bc]
        · rw [setRow_other w g k _ e]⟩
    · have hr2 := run_append_grow (P := Tryz.prog) w 32 ty 5 i0 (.int .u8 0) Tryz.underlying32 hi hz0 ⟨g, 0, none⟩ 0 0 (bc []) (by simp [bc, hz1]) (hown.cells (g := g) rfl) ad nb cb (bc ys) (by rw [bc_len, hR.len, hz1]; omega) (hR.news rfl) (by omega) (by omega) (growslice_fits (by omega) (by rw [hz2]; omega))
      obtain ⟨v', w', hrun, h2, h3, _⟩ := run_append_own (P := Tryz.prog) w 0 32 ty 5 i0 (.int .u8 0) 1 1 Tryz.underlying32 hi hz0 hz1 hz2 rfl (by decide) _ 0 (bc []) hown ad nb cb (bc ys) (by rw [bc_len, hR.len]; omega) (hR.news rfl) (bc_one ys) (by unfold maxLen; omega) (by omega) (Nat.zero_le _)
      rw [← bc_append, Nat.zero_add, List.nil_append] at h2
      obtain ⟨a', c', rfl, hr⟩ := Rd.ofOwn h2 hR.bytes
      refine ⟨a', c', w', hrun, hr, ⟨h3.os, h3.tape, h3.output, h3.size, fun k hk => ?_⟩⟩
      rw [hr2] at hrun
      injection hrun with _ e
      rw [← e]
      exact Below.heap_alloc w.drew _ _ hk

theorem exec_app {w w' : World} {o : Oper} {ρ : Operand → Value} {s x : Operand} {v u v' : Value} (ho : o.op = .call { callee := .builtin .append, args := #[s, x], argTypes := #[32, 32] }) (hs : ρ s = v) (hx : ρ x = u)
    (hrun : (Builtin.append_ #[32, 32] o.type #[v, u]).run Tryz.prog w = .ok v' w') : (execOp ρ o).run Tryz.prog w = .ok (.value v') w' := by
  simp only [execOp, ho, resolve, invoke, builtin, Sem.run_bind, Sem.run_pure, Result.andThen_ok, List.map_toArray, List.map_cons, List.map_nil, hs, hx, hrun]
theorem exec_emp {w : World} {o : Oper} {ρ : Operand → Value} (ho : o.op = .buildSlice 32 0 #[]) : (execOp ρ o).run Tryz.prog w = .ok (.value (.slice (some ⟨w.heap.size, 0, none⟩) 0 0)) (w.alloc (.cells #[] 5)) := by
  have hu := Tryz.underlying32
  obtain ⟨i0, hi, hz0, hz1, hz2⟩ := info_parts Tryz.info5
  unfold execOp
  simp only [ho]
  go_simp

theorem rd_one (w : World) (x : Int) (h0 : 0 ≤ x) (h1 : x ≤ 255) : Rd (w.alloc (.cells #[.int .u8 x] 5)) (some ⟨w.heap.size, 0, none⟩) 1 1 [x] := by
  refine ⟨rfl, Nat.le_refl _, by unfold maxLen; omega, (fun h => by cases h), (fun q hq => by simp at hq; omega), fun ad had j hj => ?_⟩
  cases had
  rw [add_flat]
  match j, hj with
  | 0, _ => unfold World.cell?; rw [World.alloc_heap_new]; rfl
/-- append(v, x): one byte behind own ones. -/
theorem wp_app1K {wr : World} {ops : Array Oper} {rest : List Oper} {o : Oper} {a : Act} {Q : Exit → Act → World → Prop} (hgd : o.guard = none) (s x : Operand)
    (ho : o.op = .call { callee := .builtin .append, args := #[s, x], argTypes := #[32, 32] })
    (base : Nat) (v : Value) (n : Nat) (xs : List Int) (hs : a.eval s = v) (hown : wr.ownsRow base 5 1 v n (bc xs)) (x0 : Int) (h0 : 0 ≤ x0) (h1 : x0 ≤ 255) (hx : a.eval x = .slice (some ⟨wr.heap.size, 0, none⟩) 1 1) (hb : n ≤ 100000000) (hbase : base ≤ wr.heap.size)
    (h : ∀ v' w', w'.ownsRow base 5 1 v' (n + 1) (bc (xs ++ [x0])) → Below base wr w' → wpList Tryz.prog ops Q rest (a.put o.dst v') w') : wpList Tryz.prog ops Q (o :: rest) a (wr.alloc (.cells #[.int .u8 x0] 5)) := by
  refine wp_appK hgd s x ho base v n xs hs (hown.alloc _) _ 1 1 [x0] hx (rd_one wr x0 h0 h1) (by omega) (by rw [World.size_alloc]; omega) ?_
  intro v' w' h1 h2 _
  exact h v' w' h1 (below_step (Below.refl _ _) hbase hown h2)

end Go.Proofs.YtikkieaokfailabGreatDoor

/- CRC-32 on bit vectors: one bit's step, a byte's eight, a row's; sums go by xor; a step loses nothing. -/
namespace Go.Proofs.YtikkieaokfailabGreatDoor
open Go.RowKit

def sb (r : BitVec 32) : BitVec 32 := (r >>> 1) ^^^ (if r.getLsbD 0 then 0xedb88320#32 else 0#32)
def sh (r : BitVec 32) : Nat → BitVec 32
  | 0 => r
  | k + 1 => sb (sh r k)
def byB (x : Int) : BitVec 32 := BitVec.ofInt 32 x
def reg (r : BitVec 32) : List Int → BitVec 32
  | [] => r
  | x :: xs => reg (sh (r ^^^ byB x) 8) xs
def more (s : BitVec 32) (xs : List Int) : BitVec 32 := ~~~ (reg (~~~ s) xs)

theorem reg_append (r : BitVec 32) (xs ys : List Int) : reg r (xs ++ ys) = reg (reg r xs) ys := by
  induction xs generalizing r with
  | nil => rfl
  | cons x xs ih => exact ih _
theorem more_append (s : BitVec 32) (xs ys : List Int) : more s (xs ++ ys) = more (more s xs) ys := by
  unfold more; rw [reg_append, BitVec.not_not]
theorem more_nil (s : BitVec 32) : more s [] = s := by unfold more reg; rw [BitVec.not_not]

theorem sb_xor (a b : BitVec 32) : sb (a ^^^ b) = sb a ^^^ sb b := by
  unfold sb
  rw [BitVec.ushiftRight_xor_distrib, BitVec.getLsbD_xor]
  cases a.getLsbD 0 <;> cases b.getLsbD 0 <;> simp
  · rw [BitVec.xor_assoc]
  · ac_rfl
  · rw [show a >>> 1 ^^^ 3988292384#32 ^^^ (b >>> 1 ^^^ 3988292384#32) = a >>> 1 ^^^ b >>> 1 ^^^ (3988292384#32 ^^^ 3988292384#32) by ac_rfl]; simp
theorem sh_xor (a b : BitVec 32) : ∀ k, sh (a ^^^ b) k = sh a k ^^^ sh b k
  | 0 => rfl
  | k + 1 => by unfold sh; rw [sh_xor a b k, sb_xor]
theorem sb_zero : sb 0#32 = 0#32 := by decide
theorem sh_zero : ∀ k, sh 0#32 k = 0#32
  | 0 => rfl
  | k + 1 => by unfold sh; rw [sh_zero k, sb_zero]
theorem sb_ne {d : BitVec 32} (h : sb d = 0#32) : d = 0#32 := by
  unfold sb at h
  cases hl : d.getLsbD 0 with
  | true =>
    rw [hl] at h
    have h31 := congrArg (fun z => z.getLsbD 31) h
    simp at h31
  | false =>
    rw [hl] at h
    simp at h
    have hn := congrArg BitVec.toNat h
    rw [BitVec.toNat_ushiftRight] at hn
    simp [Nat.shiftRight_eq_div_pow] at hn
    apply BitVec.eq_of_toNat_eq
    have : d.toNat.testBit 0 = false := hl
    rw [Nat.testBit_zero] at this
    simp at this
    simp
    omega
theorem sh_ne {d : BitVec 32} : ∀ {k}, sh d k = 0#32 → d = 0#32
  | 0, h => h
  | k + 1, h => sh_ne (k := k) (sb_ne h)

/-- What two rows of one length make of two registers: by xor. -/
def dif (d : BitVec 32) : List Int → List Int → BitVec 32
  | x :: xs, y :: ys => dif (sh (d ^^^ byB x ^^^ byB y) 8) xs ys
  | _, _ => d
theorem reg_dif (a b : BitVec 32) (xs ys : List Int) (h : xs.length = ys.length) : reg a xs ^^^ reg b ys = dif (a ^^^ b) xs ys := by
  induction xs generalizing a b ys with
  | nil => cases ys with
    | nil => rfl
    | cons y ys => cases h
  | cons x xs ih => cases ys with
    | nil => cases h
    | cons y ys =>
      have := ih (sh (a ^^^ byB x) 8) (sh (b ^^^ byB y) 8) ys (by simpa using h)
      show reg (sh (a ^^^ byB x) 8) xs ^^^ reg (sh (b ^^^ byB y) 8) ys = dif (sh (a ^^^ b ^^^ byB x ^^^ byB y) 8) xs ys
      rw [this, ← sh_xor]
      congr 2
      ac_rfl
theorem dif_same (d : BitVec 32) (xs : List Int) (h : dif d xs xs = 0#32) : d = 0#32 := by
  induction xs generalizing d with
  | nil => exact h
  | cons x xs ih =>
    have := sh_ne (ih _ h)
    rw [BitVec.xor_assoc, BitVec.xor_self, BitVec.xor_zero] at this
    exact this

/-! ### As whole numbers -/
def uw (r : BitVec 32) : Int := (r.toNat : Int)
theorem uw_bd (r : BitVec 32) : 0 ≤ uw r ∧ uw r ≤ 4294967295 := by unfold uw; have := r.isLt; omega
theorem uw_of {x : Int} (h0 : 0 ≤ x) (h1 : x ≤ 4294967295) : ∃ r, x = uw r := by
  refine ⟨BitVec.ofNat 32 x.toNat, ?_⟩
  unfold uw
  rw [BitVec.toNat_ofNat, Nat.mod_eq_of_lt (by omega)]
  omega
theorem uw_inj {a b : BitVec 32} (h : uw a = uw b) : a = b := by unfold uw at h; exact BitVec.eq_of_toNat_eq (by omega)
theorem wrap_uw (r : BitVec 32) : IntKind.u32.wrap (r.toNat : Int) = uw r := by
  have := r.isLt
  rw [IntKind.wrap_u32]; unfold uw; omega
theorem ofInt_uw (r : BitVec 32) : BitVec.ofInt 32 (uw r) = r := by
  unfold uw; rw [BitVec.ofInt_natCast, BitVec.ofNat_toNat, BitVec.setWidth_eq]
theorem xor_uw (a b : BitVec 32) : bits .xor .u32 (uw a) (uw b) = uw (a ^^^ b) := by
  show IntKind.u32.wrap ((BitVec.ofInt 32 (uw a) ^^^ BitVec.ofInt 32 (uw b)).toNat : Int) = _
  rw [ofInt_uw, ofInt_uw, wrap_uw]
theorem xor_byte (a : BitVec 32) (x : Int) : bits .xor .u32 (uw a) x = uw (a ^^^ byB x) := by
  show IntKind.u32.wrap ((BitVec.ofInt 32 (uw a) ^^^ BitVec.ofInt 32 x).toNat : Int) = _
  rw [ofInt_uw, wrap_uw]; rfl
theorem not_uw (a : BitVec 32) : bits .xor .u32 IntKind.u32.max (uw a) = uw (~~~ a) := by
  show IntKind.u32.wrap ((BitVec.ofInt 32 IntKind.u32.max ^^^ BitVec.ofInt 32 (uw a)).toNat : Int) = _
  rw [ofInt_uw, wrap_uw]
  have : BitVec.ofInt 32 IntKind.u32.max = BitVec.allOnes 32 := by decide
  rw [this, BitVec.allOnes_xor]
theorem and_uw (a : BitVec 32) : bits .and .u32 (uw a) 1 = if a.getLsbD 0 then 1 else 0 := by
  show IntKind.u32.wrap ((BitVec.ofInt 32 (uw a) &&& BitVec.ofInt 32 1).toNat : Int) = _
  rw [ofInt_uw, wrap_uw, uw, BitVec.toNat_and, show (BitVec.ofInt 32 1).toNat = 1 from by decide, Nat.and_one_is_mod]
  have hb : a.getLsbD 0 = decide (a.toNat % 2 = 1) := Nat.testBit_zero _
  rw [hb]
  by_cases h : a.toNat % 2 = 1
  · simp [h]
  · have h2 : a.toNat % 2 = 0 := by omega
    simp [h2]
theorem shr_uw (a : BitVec 32) : (uw a) / (2 : Int) = uw (a >>> (1 : Nat)) := by
  unfold uw; rw [BitVec.toNat_ushiftRight, Nat.shiftRight_eq_div_pow]; simp
theorem poly_uw (a : BitVec 32) : bits .xor .u32 (uw a) 3988292384 = uw (a ^^^ 0xedb88320#32) := xor_byte a 3988292384
end Go.Proofs.YtikkieaokfailabGreatDoor

/- crc: shifted, More, Sum; the document's. -/
namespace Go.Proofs.YtikkieaokfailabGreatDoor
open Go.RowKit

theorem sb_one {r : BitVec 32} (h : r.getLsbD 0 = true) : sb r = (r >>> 1) ^^^ 0xedb88320#32 := by unfold sb; rw [h]; rfl
theorem sb_nil {r : BitVec 32} (h : r.getLsbD 0 = false) : sb r = r >>> 1 := by unfold sb; rw [h]; simp

set_option maxRecDepth 100000 in
set_option maxHeartbeats 800000 in
theorem shifted_any (r : BitVec 32) (w : World) :
    Calls Tryz.prog 83 #[.int .u32 (uw r)] w fun e w' => e = .returned (.int .u32 (uw (sh r 8))) ∧ w' = w := by
  go_enter Tryz.func83, Tryz.ntmps83
  go_wp2_with fail
  go_loopw [0, 3, 4] (fun v f i wr => ∃ k : Nat, k ≤ 8 ∧ i = .int .i64 k ∧ v = .int .u32 (uw (sh r k)) ∧ wr = w) (fun _ _ i _ => 8 - (intOf i).toNat)
  case atStart => exact ⟨0, by omega, rfl, rfl, rfl⟩
  case round =>
    obtain ⟨k, hk, rfl, rfl, rfl⟩ := hrel
    by_cases hlt : k < 8
    · have hcl : (k : Int) < 8 := by omega
      have hs : sh r (k + 1) = sb (sh r k) := rfl
      have ha := and_uw (sh r k)
      have hd := shr_uw (sh r k)
      have hp := poly_uw (sh r k >>> 1)
      cases hb : (sh r k).getLsbD 0 with
      | true =>
        rw [hb] at ha
        rw [sb_one hb] at hs
        have ha' : bits .and .u32 (uw (sh r k)) 1 = 1 := ha
        clear ha hb
        go_wp2
        exact ⟨⟨k + 1, by omega, by go_num, by rw [hs], trivial⟩, by simp [intOf]; omega⟩
      | false =>
        rw [hb] at ha
        rw [sb_nil hb] at hs
        have ha' : bits .and .u32 (uw (sh r k)) 1 = 0 := ha
        clear ha hb
        go_wp2
        exact ⟨⟨k + 1, by omega, by go_num, by rw [hs], trivial⟩, by simp [intOf]; omega⟩
    · obtain rfl : k = 8 := by omega
      have hcl2 : ¬ ((8 : Nat) : Int) < 8 := by omega
      go_wp2
      go_ret
      exact ⟨rfl, rfl⟩

theorem reg_take (r : BitVec 32) (xs : List Int) (k : Nat) (h : k < xs.length) : reg r (xs.take (k + 1)) = sh (reg r (xs.take k) ^^^ byB (xs.getD k 0)) 8 := by
  rw [List.take_succ_eq_append_getElem h, reg_append]
  have : xs.getD k 0 = xs[k] := by simp [List.getD, List.getElem?_eq_getElem h]
  rw [this]; rfl

set_option maxRecDepth 100000 in
set_option maxHeartbeats 800000 in
theorem more_any (s : BitVec 32) (a : Option Addr) (n c : Nat) (xs : List Int) (w : World) (hR : Rd w a n c xs) :
    Calls Tryz.prog 70 #[.int .u32 (uw s), .slice a n c] w fun e w' => e = .returned (.int .u32 (uw (more s xs))) ∧ w' = w := by
  have hl := hR.len
  have hcp := hR.cap
  have hmx : c ≤ 9223372036854775807 := hR.most
  have hN1 := not_uw s
  have HR : Hid (Rd w a n c xs) := hR
  have HL : Hid (xs.length = n) := hl
  clear hR hl
  go_enter Tryz.func70, Tryz.ntmps70
  go_wp2_with fail
  go_loopw [5, 7, 12] (fun v f i wr => ∃ k : Nat, k ≤ n ∧ i = .int .i64 k ∧ v = .int .u32 (uw (reg (~~~ s) (xs.take k))) ∧ wr = w) (fun _ _ i _ => n - (intOf i).toNat)
  case atStart => exact ⟨0, by omega, rfl, rfl, rfl⟩
  case round =>
    obtain ⟨k, hk, rfl, rfl, hw⟩ := hrel
    replace hw := hw.symm
    subst hw
    by_cases hlt : k < n
    · have hcl : (k : Int) < (n : Int) := by omega
      obtain ⟨b, off, rfl, hce⟩ := HR.out.flat (by omega)
      have hc1 := hce k hlt
      have hbx := HR.out.bytes.get k
      have hst := reg_take (~~~ s) xs k (by rw [HL.out]; exact hlt)
      have hxb := xor_byte (reg (~~~ s) (xs.take k)) (xs.getD k 0)
      obtain ⟨x, HX⟩ : ∃ x, Hid (xs.getD k 0 = x) := ⟨_, rfl⟩
      rw [HX.out] at hc1 hbx hst hxb
      have hx32 : x % 4294967296 = x := by omega
      have hst' : Hid (_ = _) := hst
      obtain ⟨R, HRg⟩ : ∃ R, Hid (reg (~~~ s) (xs.take k) = R) := ⟨_, rfl⟩
      rw [HRg.out] at hxb hst' ⊢
      clear hst hce hN1
      go_wp2_with (go_at_call 83; refine (shifted_any (R ^^^ byB x) _).mono ?_; rintro e w' ⟨rfl, rfl⟩)
      exact ⟨⟨k + 1, by omega, by go_num, by rw [hst'.out], trivial⟩, by simp [intOf]; omega⟩
    · obtain rfl : k = n := by omega
      have hcl2 : ¬ (k : Int) < (k : Int) := by omega
      have ht : xs.take k = xs := List.take_of_length_le (by rw [HL.out]; omega)
      rw [ht]
      have hN2 := not_uw (reg (~~~ s) xs)
      clear ht hN1
      go_wp2
      go_ret
      exact ⟨rfl, rfl⟩

theorem uw_zero : (0 : Int) = uw 0#32 := rfl
theorem sum_any (a : Option Addr) (n c : Nat) (xs : List Int) (w : World) (hR : Rd w a n c xs) :
    Calls Tryz.prog 51 #[.slice a n c] w fun e w' => e = .returned (.int .u32 (uw (more 0#32 xs))) ∧ w' = w := by
  have hM := fun u (h : Rd u a n c xs) => more_any 0#32 a n c xs u h
  go_enter Tryz.func51, Tryz.ntmps51
  go_wp2_with (go_at_call 70; refine (hM _ hR).mono ?_; rintro e w' ⟨rfl, rfl⟩)
  go_ret
  exact ⟨rfl, rfl⟩

end Go.Proofs.YtikkieaokfailabGreatDoor

/- Numbers as bytes, and the forms of records. -/
namespace Go.Proofs.YtikkieaokfailabGreatDoor
open Go.RowKit Go.Joins

def bigL (s n : Nat) : List Int := (List.range s).map fun i => ((n / 256 ^ (s - 1 - i) % 256 : Nat) : Int)
theorem bigL_len (s n : Nat) : (bigL s n).length = s := by simp [bigL]
theorem bigL_bd (s n : Nat) : Bd (bigL s n) := by
  intro x hx
  obtain ⟨i, _, rfl⟩ := List.mem_map.1 hx
  have : n / 256 ^ (s - 1 - i) % 256 < 256 := Nat.mod_lt _ (by decide)
  omega

theorem big4 (n : Nat) : bigL 4 n = [(n : Int) / 16777216 % 256, (n : Int) / 65536 % 256, (n : Int) / 256 % 256, (n : Int) % 256] := by
  have e : bigL 4 n = [((n / 256 ^ 3 % 256 : Nat) : Int), ((n / 256 ^ 2 % 256 : Nat) : Int), ((n / 256 ^ 1 % 256 : Nat) : Int), ((n / 256 ^ 0 % 256 : Nat) : Int)] := rfl
  rw [e]
  simp only [List.cons.injEq, and_true]
  refine ⟨?_, ?_, ?_, ?_⟩ <;> omega
set_option maxRecDepth 100000 in
set_option maxHeartbeats 2000000 in
theorem put4_any (B : Nat) (v : Value) (m : Nat) (xs : List Int) (n : Nat) (hm : m ≤ 2000000) (w : World) (hB : B ≤ w.heap.size) (hown : w.ownsRow B 5 1 v m (bc xs)) :
    Calls Tryz.prog 50 #[v, .int .u64 (n : Int), .int .i64 4] w fun e w' => ∃ v', e = .returned v' ∧ w'.ownsRow B 5 1 v' (m + 4) (bc (xs ++ bigL 4 n)) ∧ Below B w w' := by
  have HE : Hid (bigL 4 n = [(n : Int) / 16777216 % 256, (n : Int) / 65536 % 256, (n : Int) / 256 % 256, (n : Int) % 256]) := big4 n
  have l0 : 0 ≤ (n : Int) / 16777216 % 256 ∧ (n : Int) / 16777216 % 256 ≤ 255 := by omega
  have l1 : 0 ≤ (n : Int) / 65536 % 256 ∧ (n : Int) / 65536 % 256 ≤ 255 := by omega
  have l2 : 0 ≤ (n : Int) / 256 % 256 ∧ (n : Int) / 256 % 256 ≤ 255 := by omega
  have l3 : 0 ≤ (n : Int) % 256 ∧ (n : Int) % 256 ≤ 255 := by omega
  have hb0 : Below B w w := Below.refl _ _
  go_enter Tryz.func50, Tryz.ntmps50
  go_wp2_with fail
  refine wp_loop_rounds 5 ?_
  rw [rounds_succ]
  go_wp2_with (at_builtin; refine wp_app1K (wr := w) rfl _ _ rfl B v (m + 0) (xs) rfl hown ((n : Int) / 16777216 % 256) l0.1 l0.2 rfl (by omega) (Nat.le_trans hB hb0.size) ?_; intro v1 w1 o1 b1)
  have hb1 := hb0.trans b1
  rw [rounds_succ]
  go_wp2_with (at_builtin; refine wp_app1K (wr := w1) rfl _ _ rfl B v1 (m + 1) (xs ++ [(n : Int) / 16777216 % 256]) rfl o1 ((n : Int) / 65536 % 256) l1.1 l1.2 rfl (by omega) (Nat.le_trans hB hb1.size) ?_; intro v2 w2 o2 b2)
  have hb2 := hb1.trans b2
  rw [rounds_succ]
  go_wp2_with (at_builtin; refine wp_app1K (wr := w2) rfl _ _ rfl B v2 (m + 2) ((xs ++ [(n : Int) / 16777216 % 256]) ++ [(n : Int) / 65536 % 256]) rfl o2 ((n : Int) / 256 % 256) l2.1 l2.2 rfl (by omega) (Nat.le_trans hB hb2.size) ?_; intro v3 w3 o3 b3)
  have hb3 := hb2.trans b3
  rw [rounds_succ]
  go_wp2_with (at_builtin; refine wp_app1K (wr := w3) rfl _ _ rfl B v3 (m + 3) (((xs ++ [(n : Int) / 16777216 % 256]) ++ [(n : Int) / 65536 % 256]) ++ [(n : Int) / 256 % 256]) rfl o3 ((n : Int) % 256) l3.1 l3.2 rfl (by omega) (Nat.le_trans hB hb3.size) ?_; intro v4 w4 o4 b4)
  have hb4 := hb3.trans b4
  rw [rounds_succ]
  go_wp2
  go_ret
  refine ⟨_, rfl, ?_, hb4⟩
  rw [HE.out]
  simpa [List.append_assoc, Nat.add_assoc] using o4

theorem big8 (n : Nat) : bigL 8 n = [(n : Int) / 72057594037927936 % 256, (n : Int) / 281474976710656 % 256, (n : Int) / 1099511627776 % 256, (n : Int) / 4294967296 % 256, (n : Int) / 16777216 % 256, (n : Int) / 65536 % 256, (n : Int) / 256 % 256, (n : Int) % 256] := by
  have e : bigL 8 n = [((n / 256 ^ 7 % 256 : Nat) : Int), ((n / 256 ^ 6 % 256 : Nat) : Int), ((n / 256 ^ 5 % 256 : Nat) : Int), ((n / 256 ^ 4 % 256 : Nat) : Int), ((n / 256 ^ 3 % 256 : Nat) : Int), ((n / 256 ^ 2 % 256 : Nat) : Int), ((n / 256 ^ 1 % 256 : Nat) : Int), ((n / 256 ^ 0 % 256 : Nat) : Int)] := rfl
  rw [e]
  simp only [List.cons.injEq, and_true]
  refine ⟨?_, ?_, ?_, ?_, ?_, ?_, ?_, ?_⟩ <;> omega
set_option maxRecDepth 100000 in
set_option maxHeartbeats 2000000 in
theorem put8_any (B : Nat) (v : Value) (m : Nat) (xs : List Int) (n : Nat) (hm : m ≤ 2000000) (w : World) (hB : B ≤ w.heap.size) (hown : w.ownsRow B 5 1 v m (bc xs)) :
    Calls Tryz.prog 50 #[v, .int .u64 (n : Int), .int .i64 8] w fun e w' => ∃ v', e = .returned v' ∧ w'.ownsRow B 5 1 v' (m + 8) (bc (xs ++ bigL 8 n)) ∧ Below B w w' := by
  have HE : Hid (bigL 8 n = [(n : Int) / 72057594037927936 % 256, (n : Int) / 281474976710656 % 256, (n : Int) / 1099511627776 % 256, (n : Int) / 4294967296 % 256, (n : Int) / 16777216 % 256, (n : Int) / 65536 % 256, (n : Int) / 256 % 256, (n : Int) % 256]) := big8 n
  have l0 : 0 ≤ (n : Int) / 72057594037927936 % 256 ∧ (n : Int) / 72057594037927936 % 256 ≤ 255 := by omega
  have l1 : 0 ≤ (n : Int) / 281474976710656 % 256 ∧ (n : Int) / 281474976710656 % 256 ≤ 255 := by omega
  have l2 : 0 ≤ (n : Int) / 1099511627776 % 256 ∧ (n : Int) / 1099511627776 % 256 ≤ 255 := by omega
  have l3 : 0 ≤ (n : Int) / 4294967296 % 256 ∧ (n : Int) / 4294967296 % 256 ≤ 255 := by omega
  have l4 : 0 ≤ (n : Int) / 16777216 % 256 ∧ (n : Int) / 16777216 % 256 ≤ 255 := by omega
  have l5 : 0 ≤ (n : Int) / 65536 % 256 ∧ (n : Int) / 65536 % 256 ≤ 255 := by omega
  have l6 : 0 ≤ (n : Int) / 256 % 256 ∧ (n : Int) / 256 % 256 ≤ 255 := by omega
  have l7 : 0 ≤ (n : Int) % 256 ∧ (n : Int) % 256 ≤ 255 := by omega
  have hb0 : Below B w w := Below.refl _ _
  go_enter Tryz.func50, Tryz.ntmps50
  go_wp2_with fail
  refine wp_loop_rounds 9 ?_
  rw [rounds_succ]
  go_wp2_with (at_builtin; refine wp_app1K (wr := w) rfl _ _ rfl B v (m + 0) (xs) rfl hown ((n : Int) / 72057594037927936 % 256) l0.1 l0.2 rfl (by omega) (Nat.le_trans hB hb0.size) ?_; intro v1 w1 o1 b1)
  have hb1 := hb0.trans b1
  rw [rounds_succ]
  go_wp2_with (at_builtin; refine wp_app1K (wr := w1) rfl _ _ rfl B v1 (m + 1) (xs ++ [(n : Int) / 72057594037927936 % 256]) rfl o1 ((n : Int) / 281474976710656 % 256) l1.1 l1.2 rfl (by omega) (Nat.le_trans hB hb1.size) ?_; intro v2 w2 o2 b2)
  have hb2 := hb1.trans b2
  rw [rounds_succ]
  go_wp2_with (at_builtin; refine wp_app1K (wr := w2) rfl _ _ rfl B v2 (m + 2) ((xs ++ [(n : Int) / 72057594037927936 % 256]) ++ [(n : Int) / 281474976710656 % 256]) rfl o2 ((n : Int) / 1099511627776 % 256) l2.1 l2.2 rfl (by omega) (Nat.le_trans hB hb2.size) ?_; intro v3 w3 o3 b3)
  have hb3 := hb2.trans b3
  rw [rounds_succ]
  go_wp2_with (at_builtin; refine wp_app1K (wr := w3) rfl _ _ rfl B v3 (m + 3) (((xs ++ [(n : Int) / 72057594037927936 % 256]) ++ [(n : Int) / 281474976710656 % 256]) ++ [(n : Int) / 1099511627776 % 256]) rfl o3 ((n : Int) / 4294967296 % 256) l3.1 l3.2 rfl (by omega) (Nat.le_trans hB hb3.size) ?_; intro v4 w4 o4 b4)
  have hb4 := hb3.trans b4
  rw [rounds_succ]
  go_wp2_with (at_builtin; refine wp_app1K (wr := w4) rfl _ _ rfl B v4 (m + 4) ((((xs ++ [(n : Int) / 72057594037927936 % 256]) ++ [(n : Int) / 281474976710656 % 256]) ++ [(n : Int) / 1099511627776 % 256]) ++ [(n : Int) / 4294967296 % 256]) rfl o4 ((n : Int) / 16777216 % 256) l4.1 l4.2 rfl (by omega) (Nat.le_trans hB hb4.size) ?_; intro v5 w5 o5 b5)
  have hb5 := hb4.trans b5
  rw [rounds_succ]
  go_wp2_with (at_builtin; refine wp_app1K (wr := w5) rfl _ _ rfl B v5 (m + 5) (((((xs ++ [(n : Int) / 72057594037927936 % 256]) ++ [(n : Int) / 281474976710656 % 256]) ++ [(n : Int) / 1099511627776 % 256]) ++ [(n : Int) / 4294967296 % 256]) ++ [(n : Int) / 16777216 % 256]) rfl o5 ((n : Int) / 65536 % 256) l5.1 l5.2 rfl (by omega) (Nat.le_trans hB hb5.size) ?_; intro v6 w6 o6 b6)
  have hb6 := hb5.trans b6
  rw [rounds_succ]
  go_wp2_with (at_builtin; refine wp_app1K (wr := w6) rfl _ _ rfl B v6 (m + 6) ((((((xs ++ [(n : Int) / 72057594037927936 % 256]) ++ [(n : Int) / 281474976710656 % 256]) ++ [(n : Int) / 1099511627776 % 256]) ++ [(n : Int) / 4294967296 % 256]) ++ [(n : Int) / 16777216 % 256]) ++ [(n : Int) / 65536 % 256]) rfl o6 ((n : Int) / 256 % 256) l6.1 l6.2 rfl (by omega) (Nat.le_trans hB hb6.size) ?_; intro v7 w7 o7 b7)
  have hb7 := hb6.trans b7
  rw [rounds_succ]
  go_wp2_with (at_builtin; refine wp_app1K (wr := w7) rfl _ _ rfl B v7 (m + 7) (((((((xs ++ [(n : Int) / 72057594037927936 % 256]) ++ [(n : Int) / 281474976710656 % 256]) ++ [(n : Int) / 1099511627776 % 256]) ++ [(n : Int) / 4294967296 % 256]) ++ [(n : Int) / 16777216 % 256]) ++ [(n : Int) / 65536 % 256]) ++ [(n : Int) / 256 % 256]) rfl o7 ((n : Int) % 256) l7.1 l7.2 rfl (by omega) (Nat.le_trans hB hb7.size) ?_; intro v8 w8 o8 b8)
  have hb8 := hb7.trans b8
  rw [rounds_succ]
  go_wp2
  go_ret
  refine ⟨_, rfl, ?_, hb8⟩
  rw [HE.out]
  simpa [List.append_assoc, Nat.add_assoc] using o8

/-- Bytes as a number, the highest first. -/
def numK (xs : List Int) : Nat → Nat
  | 0 => 0
  | k + 1 => numK xs k * 256 + (xs.getD k 0).toNat
def numL (xs : List Int) : Nat := numK xs xs.length
theorem numK_lt {xs : List Int} (hb : Bd xs) : ∀ k, numK xs k < 256 ^ k
  | 0 => by simp [numK]
  | k + 1 => by
    have h1 := numK_lt hb k
    have h2 : (xs.getD k 0).toNat < 256 := by have := hb.get k; omega
    show numK xs k * 256 + _ < 256 ^ (k + 1)
    rw [Nat.pow_succ]
    omega
theorem or_beN {acc : Nat} {z : Int} (h0 : 0 ≤ z) (h1 : z ≤ 255) (ha : acc < 72057594037927936) : bits .or .u64 ((acc : Int) * 256) z = ((acc * 256 + z.toNat : Nat) : Int) := by
  obtain ⟨d, rfl, hd⟩ : ∃ d : Nat, z = (d : Int) ∧ d < 256 := ⟨z.toNat, by omega, by omega⟩
  have e1 : ((acc : Int) * 256) = ((acc * 256 : Nat) : Int) := by omega
  rw [e1, bits_or_u64_nat _ _ (by omega) (by omega)]
  congr 1
  have e2 : acc * 256 = acc <<< 8 := by rw [Nat.shiftLeft_eq]
  rw [e2, ← Nat.shiftLeft_add_eq_or_of_lt (show d < 2 ^ 8 by omega)]
  simp

set_option maxHeartbeats 800000 in
theorem number_any (a : Option Addr) (n c : Nat) (xs : List Int) (w : World) (hR : Rd w a n c xs) (h8 : n ≤ 8) :
    Calls Tryz.prog 40 #[.slice a n c] w fun e w' => e = .returned (.int .u64 (numL xs : Nat)) ∧ w' = w := by
  have hl := hR.len
  have hcp := hR.cap
  have hmx : c ≤ 9223372036854775807 := hR.most
  have HL : Hid (numL xs = numK xs n) := by show numL xs = numK xs n; unfold numL; rw [hl]
  rw [HL.out]
  clear hl
  go_enter Tryz.func40, Tryz.ntmps40
  go_wp2
  go_loop [2, 4, 7] (fun s _ i => ∃ k : Nat, k ≤ n ∧ i = .int .i64 k ∧ s = .int .u64 (numK xs k)) (fun _ _ i => n - (intOf i).toNat)
  case atStart => exact ⟨0, by omega, rfl, rfl⟩
  case round =>
    obtain ⟨k, hk, rfl, rfl⟩ := hrel
    by_cases hlt : k < n
    · have hlz : (k : Int) < (n : Int) := by omega
      have hk0 : (0 : Int) ≤ (k : Int) := by omega
      have hb := hR.bytes.get k
      have hlt2 := numK_lt hR.bytes k
      have hpow : 256 ^ k ≤ 72057594037927936 := by
        have : 256 ^ k ≤ 256 ^ 7 := Nat.pow_le_pow_right (by omega) (by omega)
        simpa using this
      obtain ⟨ad, rfl⟩ : ∃ ad, a = some ad := by
        cases a with
        | none => have := hR.nil rfl; omega
        | some ad => exact ⟨ad, rfl⟩
      have hc1 := hR.cells _ rfl k hlt
      obtain ⟨z, hz⟩ : ∃ z, xs.getD k 0 = z := ⟨_, rfl⟩
      have HB : Hid (numK xs (k + 1) = numK xs k * 256 + z.toNat) := by rw [← hz]; exact rfl
      rw [hz] at hb hc1
      have ho := or_beN (acc := numK xs k) hb.1 hb.2 (by omega)
      have hbk : ((numK xs k : Nat) : Int) < 72057594037927936 := by omega
      clear hz hpow hlt2
      go_wp2
      go_round
      case rel => exact ⟨k + 1, by omega, by go_num, by rw [HB.out]; congr 1; omega⟩
      case measure => simp [intOf]; omega
    · obtain rfl : k = n := by omega
      have hlz : ¬ (k : Int) < (k : Int) := by omega
      go_wp2
      go_ret
      exact ⟨rfl, rfl⟩

theorem mk0N (w : World) (M : Nat) (hM : M ≤ 100000000) : ∃ w', (Instr.makeSlice 32 (.int .i64 0) (.int .i64 M)).run Tryz.prog w = .ok (.slice (some ⟨w.heap.size, 0, none⟩) 0 M) w' ∧ w'.ownsRow w.heap.size 5 1 (.slice (some ⟨w.heap.size, 0, none⟩) 0 M) 0 (bc []) ∧ Below w.heap.size w w' := by
  obtain ⟨i0, hi, hz0, hz1, hz2⟩ := info_parts Tryz.info5
  obtain ⟨w', h1, h2, h3⟩ := run_make_own w w.heap.size 32 5 i0 (.int .u8 0) 1 Tryz.underlying32 hi hz0 hz1 .i64 .i64 M (by rw [hz2]; omega) (by unfold maxLen; omega) (Nat.le_refl _)
  exact ⟨w', h1, h2, (Below.refl _ _).grown h3 (Nat.le_refl _) (fun k hk => by cases hk)⟩

/-- A check sum, as a number. -/
def crcN (xs : List Int) : Nat := (more 0#32 xs).toNat
theorem crcN_lt (xs : List Int) : crcN xs < 4294967296 := (more 0#32 xs).isLt
theorem sumN_any (a : Option Addr) (n c : Nat) (xs : List Int) (w : World) (hR : Rd w a n c xs) :
    Calls Tryz.prog 51 #[.slice a n c] w fun e w' => e = .returned (.int .u32 ((crcN xs : Nat) : Int)) ∧ w' = w := sum_any a n c xs w hR
/-- A record's form. -/
def formL (xs : List Int) : List Int := bigL 4 xs.length ++ bigL 4 (crcN xs) ++ xs
theorem formL_len (xs : List Int) : (formL xs).length = 8 + xs.length := by
  unfold formL
  rw [List.length_append, List.length_append, bigL_len, bigL_len]

set_option maxHeartbeats 1000000 in
theorem form_any (a : Option Addr) (n c : Nat) (xs : List Int) (w : World) (hR : Rd w a n c xs) (hn : n ≤ 1048576) :
    Calls Tryz.prog 33 #[.slice a n c] w fun e w' => ∃ v', e = .returned v' ∧ w'.ownsRow w.heap.size 5 1 v' (8 + n) (bc (formL xs)) ∧ Below w.heap.size w w' := by
  have hl := hR.len
  obtain ⟨w1, hmk, ho1, hb1⟩ := mk0N w (8 + n) (by omega)
  have hn8 : ((8 + n : Nat) : Int) = 8 + (n : Int) := by omega
  rw [hn8] at hmk
  have hS := fun w' (hb : Below w.heap.size w w') => sumN_any a n c xs w' (hR.carry (Nat.le_refl _) hb)
  have hlt := crcN_lt xs
  have HF : Hid (formL xs = bigL 4 n ++ bigL 4 (crcN xs) ++ xs) := by show formL xs = _; unfold formL; rw [hl]
  rw [HF.out]
  obtain ⟨S, HS⟩ : ∃ S, Hid (crcN xs = S) := ⟨_, rfl⟩
  rw [HS.out] at hlt ⊢
  simp only [HS.out] at hS
  have hz1 : (n : Int) ≤ 1048576 := by omega
  have hz2 : (S : Int) < 4294967296 := by omega
  have tk : True := trivial
  clear hn8 hl HF
  go_enter Tryz.func33, Tryz.ntmps33
  go_wp2_with (first
    | (clear tk; go_at_call 50; refine (put4_any w.heap.size _ 0 [] n (by omega) w1 hb1.size ho1).mono ?_; rintro e w2 ⟨v2, rfl, o2, b2⟩; have hb2 := hb1.trans b2; rw [Nat.zero_add, List.nil_append] at o2)
    | (go_at_call 51; refine (hS w2 hb2).mono ?_; rintro e w3 ⟨rfl, h3⟩; replace h3 := h3.symm; subst h3)
    | (go_at_call 50; refine (put4_any w.heap.size v2 4 (bigL 4 n) S (by omega) w2 hb2.size o2).mono ?_; rintro e w4 ⟨v4, rfl, o4, b4⟩; have hb4 := hb2.trans b4)
    | (at_builtin; refine wp_appK rfl _ _ rfl w.heap.size v4 (4 + 4) (bigL 4 n ++ bigL 4 S) rfl o4 a n c xs rfl (hR.carry (Nat.le_refl _) hb4) (by omega) hb4.size ?_; intro v5 w5 o5 g5 _))
  go_ret
  have hb5 := hb4.grown g5 hb4.size (fun k hk => (o4.lt k hk).1)
  first
    | exact ⟨_, rfl, o5, hb5⟩ 
    | exact ⟨o5, hb5⟩ | exact ⟨_, o5, hb5⟩ | trace_state

def baseL (g : Nat) : List Int := bigL 8 g ++ bigL 4 (crcN (bigL 8 g))
theorem baseL_len (g : Nat) : (baseL g).length = 12 := by unfold baseL; rw [List.length_append, bigL_len, bigL_len]
set_option maxHeartbeats 1000000 in
theorem baseForm_any (g : Nat) (w : World) :
    Calls Tryz.prog 42 #[.int .u64 (g : Int)] w fun e w' => ∃ v', e = .returned v' ∧ w'.ownsRow w.heap.size 5 1 v' 12 (bc (baseL g)) ∧ Below w.heap.size w w' := by
  have h0 : w.ownsRow w.heap.size 5 1 (.slice none 0 0) 0 (bc []) := ⟨rfl, .inl ⟨rfl, rfl⟩⟩
  have hlt := crcN_lt (bigL 8 g)
  have HF : Hid (baseL g = bigL 8 g ++ bigL 4 (crcN (bigL 8 g))) := rfl
  rw [HF.out]
  have hS := fun a n c w' (h : Rd w' a n c (bigL 8 g)) => sumN_any a n c (bigL 8 g) w' h
  obtain ⟨S, HS⟩ : ∃ S, Hid (crcN (bigL 8 g) = S) := ⟨_, rfl⟩
  rw [HS.out] at hlt ⊢
  simp only [HS.out] at hS
  have hz2 : (S : Int) < 4294967296 := by omega
  have tk : True := trivial
  clear HF
  go_enter Tryz.func42, Tryz.ntmps42
  go_wp2_with (first
    | (clear tk; go_at_call 50; refine (put8_any w.heap.size _ 0 [] g (by omega) w (Nat.le_refl _) h0).mono ?_; rintro e w2 ⟨v2, rfl, o2, b2⟩; rw [Nat.zero_add, List.nil_append] at o2; obtain ⟨a2, c2, rfl, r2⟩ := Rd.ofOwn o2 (bigL_bd 8 g); skip)
    | (go_at_call 51; refine (hS a2 _ c2 w2 r2).mono ?_; rintro e w3 ⟨rfl, h3⟩; replace h3 := h3.symm; subst h3)
    | (go_at_call 50; refine (put4_any w.heap.size _ 8 (bigL 8 g) S (by omega) w2 b2.size o2).mono ?_; rintro e w4 ⟨v4, rfl, o4, b4⟩))
  go_ret
  first
    | exact ⟨_, rfl, o4, b2.trans b4⟩ 
    | exact ⟨o4, b2.trans b4⟩ | exact ⟨_, o4, b2.trans b4⟩ | trace_state

/-- The first record of a row of forms, if its form fits. -/
def recO (xs : List Int) : Option (List Int) :=
  if xs.length < 8 then none
  else if numL (xs.take 4) > 1048576 ∨ numL (xs.take 4) > xs.length - 8 then none
  else if crcN ((xs.drop 8).take (numL (xs.take 4))) = numL ((xs.drop 4).take 4) then some ((xs.drop 8).take (numL (xs.take 4)))
  else none
theorem numL_lt4 {xs : List Int} (hb : Bd xs) (h : xs.length ≤ 4) : numL xs < 4294967296 := by
  have h1 := numK_lt hb xs.length
  have h2 : 256 ^ xs.length ≤ 256 ^ 4 := Nat.pow_le_pow_right (by omega) h
  have h3 : (256 : Nat) ^ 4 = 4294967296 := by decide
  unfold numL
  omega
theorem Rd.dropN {w : World} {b off n c : Nat} {xs : List Int} (h : Rd w (some ⟨b, off, none⟩) n c xs) {k : Nat} (hk : k ≤ n) : Rd w (some ⟨b, off + k, none⟩) (n - k) (c - k) (xs.drop k) := by
  have hl := h.len
  have hc := h.cap
  have hm := h.most
  refine ⟨by rw [List.length_drop]; omega, by omega, by omega, (fun e => by cases e), fun x hx => h.bytes x (List.mem_of_mem_drop hx), fun ad had j hj => ?_⟩
  cases had
  have h1 := h.cells _ rfl (k + j) (by omega)
  rw [add_flat] at h1 ⊢
  rw [← Nat.add_assoc] at h1
  rw [h1]
  simp [List.getD, List.getElem?_drop]
end Go.Proofs.YtikkieaokfailabGreatDoor

/- A row of forms: its first record. -/
namespace Go.Proofs.YtikkieaokfailabGreatDoor
open Go.RowKit Go.Joins

theorem Rd.take4 {w : World} {a : Option Addr} {n c : Nat} {xs : List Int} (h : Rd w a n c xs) {k : Nat} (hk : k ≤ n) : Rd w a k c (xs.take k) := h.takeK hk

theorem recO_small {xs : List Int} (h : xs.length < 8) : recO xs = none := by unfold recO; rw [if_pos h]
theorem recO_big {xs : List Int} (h : ¬ xs.length < 8) (h2 : numL (xs.take 4) > 1048576 ∨ numL (xs.take 4) > xs.length - 8) : recO xs = none := by unfold recO; rw [if_neg h, if_pos h2]
theorem recO_sum {xs : List Int} (h : ¬ xs.length < 8) (h2 : ¬ (numL (xs.take 4) > 1048576 ∨ numL (xs.take 4) > xs.length - 8)) : recO xs = if crcN ((xs.drop 8).take (numL (xs.take 4))) = numL ((xs.drop 4).take 4) then some ((xs.drop 8).take (numL (xs.take 4))) else none := by unfold recO; rw [if_neg h, if_neg h2]

/-- row[8:]: behind the head. -/
theorem behind8 (b off n c : Nat) (hn : 8 ≤ n) (hc : n ≤ c) (hc2 : c ≤ 9223372036854775807) : ∃ o8, (∀ W, (Instr.sliceAt 32 (.slice (some ⟨b, off, none⟩) n c) (some (.int .i64 8)) none none).run Tryz.prog W = .ok (.slice (some ⟨b, o8, none⟩) (n - 8) (c - 8)) W) ∧ (∀ (w : World) (xs : List Int), Rd w (some ⟨b, off, none⟩) n c xs → Rd w (some ⟨b, o8, none⟩) (n - 8) (c - 8) (xs.drop 8)) := by
  have h1 : (8 : Int) ≤ (n : Int) := by omega
  have h2 : (n : Int) ≤ (c : Int) := by omega
  by_cases h8 : c = 8
  · subst h8
    obtain rfl : n = 8 := by omega
    refine ⟨off, fun W => ?_, fun w xs h => ?_⟩
    · go_simp
    · have hl := h.len
      rw [List.drop_eq_nil_of_le (by omega)]
      exact ⟨rfl, Nat.le_refl _, by unfold maxLen; omega, (fun e => by cases e), Bd.nil, fun _ _ j hj => by omega⟩
  · refine ⟨off + 8, fun W => ?_, fun w xs h => h.dropN hn⟩
    have h3 : ¬ (8 : Int) = (c : Int) := by omega
    have h4 : ¬ (c : Int) = 8 := by omega
    have h5 : ¬ (8 : Nat) = c := by omega
    go_simp
/-- What record answers. -/
def Rec1 (w : World) (xs : List Int) (e : Ending) : Prop := match recO xs with
  | none => ∃ v, e = .returned (.tuple #[v, .bool false])
  | some r => ∃ a' c', e = .returned (.tuple #[.slice a' r.length c', .bool true]) ∧ Rd w a' r.length c' r

set_option maxHeartbeats 2000000 in
theorem record_any (b off n c : Nat) (xs : List Int) (w : World) (hR : Rd w (some ⟨b, off, none⟩) n c xs) (hn9 : n ≤ 1000000000) :
    Calls Tryz.prog 66 #[.slice (some ⟨b, off, none⟩) n c] w fun e w' => Rec1 w xs e ∧ Below w.heap.size w w' := by
  have hl := hR.len
  have hcp := hR.cap
  have hmx : c ≤ 9223372036854775807 := hR.most
  by_cases h8 : n < 8
  · have hE : recO xs = none := recO_small (by omega)
    have HR : ∀ e, Rec1 w xs e = ∃ v, e = .returned (.tuple #[v, .bool false]) := fun e => by unfold Rec1; rw [hE]
    simp only [HR]
    have hz : (n : Int) < 8 := by omega
    clear HR hE hl
    go_enter Tryz.func66, Tryz.ntmps66
    go_wp2
    go_ret2
    exact ⟨⟨_, rfl⟩, Below.refl _ _⟩
  · have hz : ¬ (n : Int) < 8 := by omega
    have hz4 : (4 : Int) ≤ (c : Int) := by omega
    have hz8 : (8 : Int) ≤ (c : Int) := by omega
    have hzn : (8 : Int) ≤ (n : Int) := by omega
    have hc4 : ¬ c = 4 := by omega
    have hnc : (n : Int) ≤ (c : Int) := by omega
    obtain ⟨o8, hsl, hrd8⟩ := behind8 b off n c (by omega) hcp hmx
    have hr1 : Rd w (some ⟨b, off, none⟩) 4 c (xs.take 4) := hR.take4 (by omega)
    have hr2 : Rd w (some ⟨b, off + 4, none⟩) 4 (c - 4) ((xs.drop 4).take 4) := (hR.dropN (k := 4) (by omega)).take4 (by omega)
    have hr3 := hrd8 w xs hR
    have hK := numL_lt4 hr1.bytes (by rw [hr1.len]; omega)
    have hS4 := numL_lt4 hr2.bytes (by rw [hr2.len]; omega)
    have hn1 := fun w' (hb : Below w.heap.size w w') => number_any _ 4 c (xs.take 4) w' (hr1.carry (Nat.le_refl _) hb) (by omega)
    have hn2 := fun w' (hb : Below w.heap.size w w') => number_any _ 4 (c - 4) ((xs.drop 4).take 4) w' (hr2.carry (Nat.le_refl _) hb) (by omega)
    have hbig : numL (xs.take 4) > 1048576 ∨ numL (xs.take 4) > xs.length - 8 → recO xs = none := fun h => recO_big (by omega) h
    have hsum := fun h => recO_sum (xs := xs) (by omega) h
    rw [hl] at hbig hsum
    obtain ⟨K, HK⟩ : ∃ K, Hid (numL (xs.take 4) = K) := ⟨_, rfl⟩
    obtain ⟨S, HS⟩ : ∃ S, Hid (numL ((xs.drop 4).take 4) = S) := ⟨_, rfl⟩
    simp only [HK.out] at hK hn1 hbig hsum
    simp only [HS.out] at hS4 hn2 hsum
    clear hrd8 hr1 hr2
    have HW : Below w.heap.size w w.drew := (Below.refl _ _).drew
    by_cases hbg : K > 1048576 ∨ K > n - 8
    · have hE := hbig hbg
      have HR : ∀ e, Rec1 w xs e = ∃ v, e = .returned (.tuple #[v, .bool false]) := fun e => by unfold Rec1; rw [hE]
      simp only [HR]
      clear HR hE hbig hsum hl
      go_enter Tryz.func66, Tryz.ntmps66
      go_upto_region 3 with fail
      refine wp_region_lx (fun w' => w' = w.drew) [] 11 (by kernel_rfl) (by kernel_rfl) ?_
      have HSx : w.drew = w.drew := rfl
      refine lx_rd 0 ?va10 (by kernel_rfl) (fun _ _ d _ _ h => by cases d <;> exact h) (by kernel_rfl) HSx rfl rfl rfl (fun w' hS => ?ha10) ?_
      case ha10 => first | (go_simp; rfl) | go_simp
      simp only [List.setIfInBounds_toArray, List.set_cons_zero, List.set_cons_succ]
      refine lx_rd 1 (.slice (some ⟨b, off, none⟩) 4 c) (by kernel_rfl) (fun _ _ d _ _ h => by cases d <;> exact h) (by kernel_rfl) HSx rfl rfl rfl (fun w' hS => ?ha11) ?_
      case ha11 => first | (go_simp; rfl) | go_simp
      simp only [List.setIfInBounds_toArray, List.set_cons_zero, List.set_cons_succ]
      refine lx_rd 3 ?va13 (by kernel_rfl) (fun _ _ d _ _ h => by cases d <;> exact h) (by kernel_rfl) HSx rfl rfl rfl (fun w' hS => ?ha13) ?_
      case ha13 => first | (go_simp; rfl) | go_simp
      simp only [List.setIfInBounds_toArray, List.set_cons_zero, List.set_cons_succ]
      refine lx_rd 4 (.slice (some ⟨b, off + 4, none⟩) 4 (c - 4)) (by kernel_rfl) (fun _ _ d _ _ h => by cases d <;> exact h) (by kernel_rfl) HSx rfl rfl rfl (fun w' hS => ?ha14) ?_
      case ha14 => first | (go_simp; rfl) | go_simp
      simp only [List.setIfInBounds_toArray, List.set_cons_zero, List.set_cons_succ]
      refine lx_rd 6 ?va16 (by kernel_rfl) (fun _ _ d _ _ h => by cases d <;> exact h) (by kernel_rfl) HSx rfl rfl rfl (fun w' hS => ?ha16) ?_
      case ha16 => first | (go_simp; rfl) | go_simp
      simp only [List.setIfInBounds_toArray, List.set_cons_zero, List.set_cons_succ]
      refine lx_rd 7 (.slice (some ⟨b, o8, none⟩) (n - 8) (c - 8)) (by kernel_rfl) (fun _ _ d _ _ h => by cases d <;> exact h) (by kernel_rfl) HSx rfl rfl rfl (fun w' hS => ?ha17) ?_
      case ha17 => first | (go_simp; rfl) | go_simp
      simp only [List.setIfInBounds_toArray, List.set_cons_zero, List.set_cons_succ]
      refine lx_one 2 (by kernel_rfl) (stepT_call 40 ?a2x1 rfl rfl rfl ?r2x1 ?_)
      case r2x1 => first | (go_simp; rfl) | go_simp
      refine (hn1 _ HW).mono ?_
      rintro e w1 ⟨rfl, h1w⟩
      replace h1w := h1w.symm
      subst h1w
      refine ⟨_, rfl, fun _ => rfl, ?_⟩
      simp only [List.setIfInBounds_toArray, List.set_cons_zero, List.set_cons_succ]
      refine lx_one 5 (by kernel_rfl) (stepT_call 40 ?a5x1 rfl rfl rfl ?r5x1 ?_)
      case r5x1 => first | (go_simp; rfl) | go_simp
      refine (hn2 _ HW).mono ?_
      rintro e w1 ⟨rfl, h1w⟩
      replace h1w := h1w.symm
      subst h1w
      refine ⟨_, rfl, fun _ => rfl, ?_⟩
      simp only [List.setIfInBounds_toArray, List.set_cons_zero, List.set_cons_succ]
      refine lx_rd 8 ?vb18 (by kernel_rfl) (fun _ _ d _ _ h => by cases d <;> exact h) (by kernel_rfl) HSx rfl rfl rfl (fun w' hS => ?hb18) ?_
      case hb18 => first | (go_simp; rfl) | go_simp
      simp only [List.setIfInBounds_toArray, List.set_cons_zero, List.set_cons_succ]
      refine lx_rd 9 ?vb19 (by kernel_rfl) (fun _ _ d _ _ h => by cases d <;> exact h) (by kernel_rfl) HSx rfl rfl rfl (fun w' hS => ?hb19) ?_
      case hb19 => first | (go_simp; rfl) | go_simp
      simp only [List.setIfInBounds_toArray, List.set_cons_zero, List.set_cons_succ]
      refine lx_rd 10 ?vb110 (by kernel_rfl) (fun _ _ d _ _ h => by cases d <;> exact h) (by kernel_rfl) HSx rfl rfl rfl (fun w' hS => ?hb110) ?_
      case hb110 => first | (go_simp; rfl) | go_simp
      simp only [List.setIfInBounds_toArray, List.set_cons_zero, List.set_cons_succ]
      refine lx_nil (by kernel_rfl) ?_
      have hi1 : ((n - 8 : Nat) : Int) = (n : Int) - 8 := by omega
      by_cases h1 : (1048576 : Int) < (K : Int)
      · go_wp2
        go_ret2
        exact ⟨⟨_, rfl⟩, HW⟩
      · have h2 : ((n - 8 : Nat) : Int) < (K : Int) := by omega
        have h2' : (n : Int) - 8 < (K : Int) := by omega
        go_wp2
        go_ret2
        exact ⟨⟨_, rfl⟩, HW⟩
    · have hE := hsum hbg
      have h1 : ¬ (1048576 : Int) < (K : Int) := by omega
      have h2 : ¬ ((n - 8 : Nat) : Int) < (K : Int) := by omega
      have hi1 : ((n - 8 : Nat) : Int) = (n : Int) - 8 := by omega
      have h2' : ¬ (n : Int) - 8 < (K : Int) := by omega
      have hKn : K ≤ n - 8 := by omega
      have hr4 := hr3.take4 hKn
      have hSm := fun w' (hb : Below w.heap.size w w') => sumN_any _ K (c - 8) ((xs.drop 8).take K) w' (hr4.carry (Nat.le_refl _) hb)
      have hCl := crcN_lt ((xs.drop 8).take K)
      obtain ⟨T, HT⟩ : ∃ T, Hid ((xs.drop 8).take K = T) := ⟨_, rfl⟩
      rw [HT.out] at hr4 hE hCl
      simp only [HT.out] at hSm
      obtain ⟨C, HC⟩ : ∃ C, Hid (crcN T = C) := ⟨_, rfl⟩
      rw [HC.out] at hE hCl
      simp only [HC.out] at hSm
      have hCz : (C : Int) < 4294967296 := by omega
      have hKc : (K : Int) ≤ ((c - 8 : Nat) : Int) := by omega
      have hKc2 : (K : Int) ≤ (c : Int) - 8 := by omega
      have hTl : T.length = K := hr4.len
      have HR : ∀ e, Rec1 w xs e = match (if C = S then some T else none) with
          | none => ∃ v, e = .returned (.tuple #[v, .bool false])
          | some r => ∃ a' c', e = .returned (.tuple #[.slice a' r.length c', .bool true]) ∧ Rd w a' r.length c' r := fun e => by unfold Rec1; rw [hE]
      simp only [HR]
      clear HR hE hbig hsum hbg hl
      have Hr4 : Hid (Rd w (some ⟨b, o8, none⟩) K (c - 8) T) := hr4
      clear hr4
      by_cases hCS : C = S
      · subst hCS
        rw [if_pos rfl]
        go_enter Tryz.func66, Tryz.ntmps66
        go_upto_region 3 with fail
        refine wp_region_lx (fun w' => w' = w.drew) [] 11 (by kernel_rfl) (by kernel_rfl) ?_
        have HSx : w.drew = w.drew := rfl
        refine lx_rd 0 ?va20 (by kernel_rfl) (fun _ _ d _ _ h => by cases d <;> exact h) (by kernel_rfl) HSx rfl rfl rfl (fun w' hS => ?ha20) ?_
        case ha20 => first | (go_simp; rfl) | go_simp
        simp only [List.setIfInBounds_toArray, List.set_cons_zero, List.set_cons_succ]
        refine lx_rd 1 (.slice (some ⟨b, off, none⟩) 4 c) (by kernel_rfl) (fun _ _ d _ _ h => by cases d <;> exact h) (by kernel_rfl) HSx rfl rfl rfl (fun w' hS => ?ha21) ?_
        case ha21 => first | (go_simp; rfl) | go_simp
        simp only [List.setIfInBounds_toArray, List.set_cons_zero, List.set_cons_succ]
        refine lx_rd 3 ?va23 (by kernel_rfl) (fun _ _ d _ _ h => by cases d <;> exact h) (by kernel_rfl) HSx rfl rfl rfl (fun w' hS => ?ha23) ?_
        case ha23 => first | (go_simp; rfl) | go_simp
        simp only [List.setIfInBounds_toArray, List.set_cons_zero, List.set_cons_succ]
        refine lx_rd 4 (.slice (some ⟨b, off + 4, none⟩) 4 (c - 4)) (by kernel_rfl) (fun _ _ d _ _ h => by cases d <;> exact h) (by kernel_rfl) HSx rfl rfl rfl (fun w' hS => ?ha24) ?_
        case ha24 => first | (go_simp; rfl) | go_simp
        simp only [List.setIfInBounds_toArray, List.set_cons_zero, List.set_cons_succ]
        refine lx_rd 6 ?va26 (by kernel_rfl) (fun _ _ d _ _ h => by cases d <;> exact h) (by kernel_rfl) HSx rfl rfl rfl (fun w' hS => ?ha26) ?_
        case ha26 => first | (go_simp; rfl) | go_simp
        simp only [List.setIfInBounds_toArray, List.set_cons_zero, List.set_cons_succ]
        refine lx_rd 7 (.slice (some ⟨b, o8, none⟩) (n - 8) (c - 8)) (by kernel_rfl) (fun _ _ d _ _ h => by cases d <;> exact h) (by kernel_rfl) HSx rfl rfl rfl (fun w' hS => ?ha27) ?_
        case ha27 => first | (go_simp; rfl) | go_simp
        simp only [List.setIfInBounds_toArray, List.set_cons_zero, List.set_cons_succ]
        refine lx_one 2 (by kernel_rfl) (stepT_call 40 ?a2x2 rfl rfl rfl ?r2x2 ?_)
        case r2x2 => first | (go_simp; rfl) | go_simp
        refine (hn1 _ HW).mono ?_
        rintro e w1 ⟨rfl, h1w⟩
        replace h1w := h1w.symm
        subst h1w
        refine ⟨_, rfl, fun _ => rfl, ?_⟩
        simp only [List.setIfInBounds_toArray, List.set_cons_zero, List.set_cons_succ]
        refine lx_one 5 (by kernel_rfl) (stepT_call 40 ?a5x2 rfl rfl rfl ?r5x2 ?_)
        case r5x2 => first | (go_simp; rfl) | go_simp
        refine (hn2 _ HW).mono ?_
        rintro e w1 ⟨rfl, h1w⟩
        replace h1w := h1w.symm
        subst h1w
        refine ⟨_, rfl, fun _ => rfl, ?_⟩
        simp only [List.setIfInBounds_toArray, List.set_cons_zero, List.set_cons_succ]
        refine lx_rd 8 ?vb28 (by kernel_rfl) (fun _ _ d _ _ h => by cases d <;> exact h) (by kernel_rfl) HSx rfl rfl rfl (fun w' hS => ?hb28) ?_
        case hb28 => first | (go_simp; rfl) | go_simp
        simp only [List.setIfInBounds_toArray, List.set_cons_zero, List.set_cons_succ]
        refine lx_rd 9 ?vb29 (by kernel_rfl) (fun _ _ d _ _ h => by cases d <;> exact h) (by kernel_rfl) HSx rfl rfl rfl (fun w' hS => ?hb29) ?_
        case hb29 => first | (go_simp; rfl) | go_simp
        simp only [List.setIfInBounds_toArray, List.set_cons_zero, List.set_cons_succ]
        refine lx_rd 10 ?vb210 (by kernel_rfl) (fun _ _ d _ _ h => by cases d <;> exact h) (by kernel_rfl) HSx rfl rfl rfl (fun w' hS => ?hb210) ?_
        case hb210 => first | (go_simp; rfl) | go_simp
        simp only [List.setIfInBounds_toArray, List.set_cons_zero, List.set_cons_succ]
        refine lx_nil (by kernel_rfl) ?_
        go_wp2_with (go_at_call 51; refine (hSm _ HW).mono ?_; rintro e w3 ⟨rfl, h3⟩; replace h3 := h3.symm; subst h3)
        go_ret2
        refine ⟨⟨some ⟨b, o8, none⟩, c - 8, ?_, ?_⟩, HW⟩
        · rw [hTl]; rfl
        · rw [hTl]; exact Hr4.out
      · rw [if_neg hCS]
        have hne : ((C : Int) == (S : Int)) = false := by rw [beq_eq_false_iff_ne]; omega
        go_enter Tryz.func66, Tryz.ntmps66
        go_upto_region 3 with fail
        refine wp_region_lx (fun w' => w' = w.drew) [] 11 (by kernel_rfl) (by kernel_rfl) ?_
        have HSx : w.drew = w.drew := rfl
        refine lx_rd 0 ?va30 (by kernel_rfl) (fun _ _ d _ _ h => by cases d <;> exact h) (by kernel_rfl) HSx rfl rfl rfl (fun w' hS => ?ha30) ?_
        case ha30 => first | (go_simp; rfl) | go_simp
        simp only [List.setIfInBounds_toArray, List.set_cons_zero, List.set_cons_succ]
        refine lx_rd 1 (.slice (some ⟨b, off, none⟩) 4 c) (by kernel_rfl) (fun _ _ d _ _ h => by cases d <;> exact h) (by kernel_rfl) HSx rfl rfl rfl (fun w' hS => ?ha31) ?_
        case ha31 => first | (go_simp; rfl) | go_simp
        simp only [List.setIfInBounds_toArray, List.set_cons_zero, List.set_cons_succ]
        refine lx_rd 3 ?va33 (by kernel_rfl) (fun _ _ d _ _ h => by cases d <;> exact h) (by kernel_rfl) HSx rfl rfl rfl (fun w' hS => ?ha33) ?_
        case ha33 => first | (go_simp; rfl) | go_simp
        simp only [List.setIfInBounds_toArray, List.set_cons_zero, List.set_cons_succ]
        refine lx_rd 4 (.slice (some ⟨b, off + 4, none⟩) 4 (c - 4)) (by kernel_rfl) (fun _ _ d _ _ h => by cases d <;> exact h) (by kernel_rfl) HSx rfl rfl rfl (fun w' hS => ?ha34) ?_
        case ha34 => first | (go_simp; rfl) | go_simp
        simp only [List.setIfInBounds_toArray, List.set_cons_zero, List.set_cons_succ]
        refine lx_rd 6 ?va36 (by kernel_rfl) (fun _ _ d _ _ h => by cases d <;> exact h) (by kernel_rfl) HSx rfl rfl rfl (fun w' hS => ?ha36) ?_
        case ha36 => first | (go_simp; rfl) | go_simp
        simp only [List.setIfInBounds_toArray, List.set_cons_zero, List.set_cons_succ]
        refine lx_rd 7 (.slice (some ⟨b, o8, none⟩) (n - 8) (c - 8)) (by kernel_rfl) (fun _ _ d _ _ h => by cases d <;> exact h) (by kernel_rfl) HSx rfl rfl rfl (fun w' hS => ?ha37) ?_
        case ha37 => first | (go_simp; rfl) | go_simp
        simp only [List.setIfInBounds_toArray, List.set_cons_zero, List.set_cons_succ]
        refine lx_one 2 (by kernel_rfl) (stepT_call 40 ?a2x3 rfl rfl rfl ?r2x3 ?_)
        case r2x3 => first | (go_simp; rfl) | go_simp
        refine (hn1 _ HW).mono ?_
        rintro e w1 ⟨rfl, h1w⟩
        replace h1w := h1w.symm
        subst h1w
        refine ⟨_, rfl, fun _ => rfl, ?_⟩
        simp only [List.setIfInBounds_toArray, List.set_cons_zero, List.set_cons_succ]
        refine lx_one 5 (by kernel_rfl) (stepT_call 40 ?a5x3 rfl rfl rfl ?r5x3 ?_)
        case r5x3 => first | (go_simp; rfl) | go_simp
        refine (hn2 _ HW).mono ?_
        rintro e w1 ⟨rfl, h1w⟩
        replace h1w := h1w.symm
        subst h1w
        refine ⟨_, rfl, fun _ => rfl, ?_⟩
        simp only [List.setIfInBounds_toArray, List.set_cons_zero, List.set_cons_succ]
        refine lx_rd 8 ?vb38 (by kernel_rfl) (fun _ _ d _ _ h => by cases d <;> exact h) (by kernel_rfl) HSx rfl rfl rfl (fun w' hS => ?hb38) ?_
        case hb38 => first | (go_simp; rfl) | go_simp
        simp only [List.setIfInBounds_toArray, List.set_cons_zero, List.set_cons_succ]
        refine lx_rd 9 ?vb39 (by kernel_rfl) (fun _ _ d _ _ h => by cases d <;> exact h) (by kernel_rfl) HSx rfl rfl rfl (fun w' hS => ?hb39) ?_
        case hb39 => first | (go_simp; rfl) | go_simp
        simp only [List.setIfInBounds_toArray, List.set_cons_zero, List.set_cons_succ]
        refine lx_rd 10 ?vb310 (by kernel_rfl) (fun _ _ d _ _ h => by cases d <;> exact h) (by kernel_rfl) HSx rfl rfl rfl (fun w' hS => ?hb310) ?_
        case hb310 => first | (go_simp; rfl) | go_simp
        simp only [List.setIfInBounds_toArray, List.set_cons_zero, List.set_cons_succ]
        refine lx_nil (by kernel_rfl) ?_
        go_wp2_with (go_at_call 51; refine (hSm _ HW).mono ?_; rintro e w3 ⟨rfl, h3⟩; replace h3 := h3.symm; subst h3)
        go_ret2
        exact ⟨⟨_, rfl⟩, HW⟩

end Go.Proofs.YtikkieaokfailabGreatDoor

/- The disk's Restart. -/
namespace Go.Proofs.YtikkieaokfailabGreatDoor
open Go.RowKit Go.Joins

theorem put_mid {dn post : Fls} {n : Nm} {f g : Fle} (hr : Rise (dn ++ (n, f) :: post)) : putL (dn ++ (n, f) :: post) n g = dn ++ (n, g) :: post := by
  induction dn with
  | nil =>
    show putL ((n, f) :: post) n g = _
    unfold putL
    rw [if_neg (ltN_irrefl n), if_pos rfl]
    rfl
  | cons q r ih =>
    obtain ⟨a, x⟩ := q
    show putL ((a, x) :: (r ++ (n, f) :: post)) n g = (a, x) :: (r ++ (n, g) :: post)
    have h1 : ltN a n := hr.1 (n, f) (List.mem_append_right _ (List.mem_cons_self ..))
    unfold putL
    rw [if_neg (fun h => ltN_irrefl _ (ltN_trans h h1)), if_neg (fun e => by subst e; exact ltN_irrefl _ h1), ih hr.2]
theorem look_mid {dn post : Fls} {n : Nm} {f : Fle} (hr : Rise (dn ++ (n, f) :: post)) : look (dn ++ (n, f) :: post) n = some f := look_of_mem hr (List.mem_append_right _ (List.mem_cons_self ..))

/-- A row of ints in block b, from some place on. -/
def IRd (w : World) (b : Nat) (v : Value) (zs : List Int) : Prop :=
  ∃ (a : Option Addr) (c : Nat), v = .slice a zs.length c ∧ zs.length ≤ c ∧ c ≤ 9223372036854775807 ∧ (zs ≠ [] → ∃ off, a = some ⟨b, off, none⟩ ∧ ∀ j, j < zs.length → w.cell? ⟨b, off + j, none⟩ = some (.int .i64 (zs.getD j 0)))
theorem IRd.keep {S : Nat → Prop} {w w' : World} {b : Nat} {v : Value} {zs : List Int} (h : IRd w b v zs) (hk : Keep S w w') (hs : zs ≠ [] → ¬ S b) : IRd w' b v zs := by
  obtain ⟨a, c, h1, h2, h3, h4⟩ := h
  refine ⟨a, c, h1, h2, h3, fun hz => ?_⟩
  obtain ⟨off, e, hc⟩ := h4 hz
  exact ⟨off, e, fun j hj => hk.cell (hc j hj) (hs hz)⟩

theorem rest_nil (f : Fle) (hf : f.safe ≤ f.b.length) : restF f 0 = ⟨f.b.take (f.safe + 0), f.safe + 0⟩ ∧ f.safe + 0 ≤ f.b.length := by
  refine ⟨?_, hf⟩
  unfold restF
  have : (max (0 : Int) 0 % (((f.b.length - f.safe : Nat) : Int) + 1)).toNat = 0 := by
    rw [Int.max_self, Int.zero_emod]; rfl
  rw [this]

theorem restL_len (l : Fls) (keep : List Int) : (restL l keep).length = l.length := by
  induction l generalizing keep with
  | nil => rfl
  | cons q r ih =>
    obtain ⟨n, f⟩ := q
    unfold restL
    split <;> simp [ih]

theorem used_app (a b : Fls) : used (a ++ b) = used a + used b := by
  induction a with
  | nil => simp [used]
  | cons q r ih =>
    obtain ⟨n, f⟩ := q
    show f.b.length + used (r ++ b) = f.b.length + used r + used b
    rw [ih]; omega

theorem max_int (x y : Int) (ty : TypeId) (w : World) : (Builtin.max_ #[3, 3] ty #[.int .i64 x, .int .i64 y]).run Tryz.prog w = .ok (.int .i64 (max x y)) w := by
  rw [run_max_int2]
  congr 2
  split <;> omega

end Go.Proofs.YtikkieaokfailabGreatDoor
