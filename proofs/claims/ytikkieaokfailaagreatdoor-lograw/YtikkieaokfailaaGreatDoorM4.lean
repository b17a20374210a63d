/- Texts of one seat, one behind the other: ShelfL, LgC, LzL, AnyO, AnyP, CcP, CcA, LgN, LgR, DkR. -/
import Derived.Shelf.SlGeneric
import Derived.Shelf.Strconv.Itoa3
import Derived.Shelf.Strings.Prefix
import Derived.Shelf.Bytes.SlEqualAll
import Derived.Shelf.SlicesE.IndexFunc
import Derived.Shelf.Spec.SearchS
import Derived.Ground.NamesProg
import Derived.Ground.Names2Prog
import Derived.Ground.SlgfProg
import Derived.Test.YtikkieaokfailaaGreatDoorProg
import Derived.Test.YtikkieaokfailaaGreatDoorM3
import Derived.Lib.ItoaMem
import Derived.Test.YtikkieaokfailaaGreatDoorRows
import Derived.ProofKit
import Derived.OpenShut
import Derived.ChangeOld
import Derived.Deep.DeepHandedRow
import Derived.Lib.LaidTab
import Derived.Lib.SmallJoins
import Derived.Shelf.Vars
import Derived.Test.YtikkieaokfailaaGreatDoorM1
import Derived.Laws.OwnMore
import Derived.Laws.MakeOwn
namespace Go.Proofs
open Go.Shelf
def Tryz.laysM171_ren : Go.Shelf.Ren := ⟨fun | 171 => 140 | 243 => 159 | 246 => 174 | 283 => 170 | 284 => 171 | 285 => 172 | 286 => 173 | 129 => 184 | 317 => 186 | 318 => 187 | 319 => 188 | 320 => 189 | 337 => 195 | 338 => 196 | n => n, fun | 3 => 3 | 9 => 9 | 2 => 2 | 4 => 4 | 171 => 184 | 0 => 0 | 53 => 88 | 37 => 29 | 5 => 5 | 173 => 187 | 212 => 199 | 51 => 159 | 20 => 20 | 213 => 200 | 46 => 86 | 232 => 209 | 233 => 210 | n => n, fun | 17 => 0 | 18 => 1 | 19 => 2 | n => n⟩
theorem Tryz.laysM171 : Go.Proofs.LaysM.n171 Tryz.prog Tryz.laysM171_ren := {
 mixed := by kernel_rfl
 f129 := Tryz.func184.trans (congrArg some (by kernel_rfl))
 f171 := Tryz.func140.trans (congrArg some (by kernel_rfl))
 f243 := Tryz.func159.trans (congrArg some (by kernel_rfl))
 f246 := Tryz.func174.trans (congrArg some (by kernel_rfl))
 f283 := Tryz.func170.trans (congrArg some (by kernel_rfl))
 f284 := Tryz.func171.trans (congrArg some (by kernel_rfl))
 f285 := Tryz.func172.trans (congrArg some (by kernel_rfl))
 f286 := Tryz.func173.trans (congrArg some (by kernel_rfl))
 f317 := Tryz.func186.trans (congrArg some (by kernel_rfl))
 f318 := Tryz.func187.trans (congrArg some (by kernel_rfl))
 f319 := Tryz.func188.trans (congrArg some (by kernel_rfl))
 f320 := Tryz.func189.trans (congrArg some (by kernel_rfl))
 f337 := Tryz.func195.trans (congrArg some (by kernel_rfl))
 f338 := Tryz.func196.trans (congrArg some (by kernel_rfl))
 t0 := Tryz.underlying0
 a0 := Tryz.isAgg0
 z0 := Tryz.sizeOf0
 v0 := Tryz.zeroValue0
 t2 := Tryz.underlying2
 a2 := Tryz.isAgg2
 z2 := Tryz.sizeOf2
 v2 := Tryz.zeroValue2
 t3 := Tryz.underlying3
 a3 := Tryz.isAgg3
 z3 := Tryz.sizeOf3
 v3 := Tryz.zeroValue3
 t4 := Tryz.underlying4
 a4 := Tryz.isAgg4
 z4 := Tryz.sizeOf4
 v4 := Tryz.zeroValue4
 t5 := Tryz.underlying5
 a5 := Tryz.isAgg5
 z5 := Tryz.sizeOf5
 v5 := Tryz.zeroValue5
 t9 := Tryz.underlying9
 a9 := Tryz.isAgg9
 z9 := Tryz.sizeOf9
 v9 := Tryz.zeroValue9
 t20 := Tryz.underlying20
 a20 := Tryz.isAgg20
 z20 := Tryz.sizeOf20
 v20 := Tryz.zeroValue20
 t37 := Tryz.underlying29
 a37 := Tryz.isAgg29
 z37 := Tryz.sizeOf29
 v37 := Tryz.zeroValue29
 t46 := Tryz.underlying86
 a46 := Tryz.isAgg86
 z46 := Tryz.sizeOf86
 v46 := Tryz.zeroValue86
 t51 := Tryz.underlying159
 a51 := Tryz.isAgg159
 z51 := Tryz.sizeOf159
 v51 := Tryz.zeroValue159
 t53 := Tryz.underlying88
 a53 := Tryz.isAgg88
 z53 := Tryz.sizeOf88
 v53 := Tryz.zeroValue88
 t171 := Tryz.underlying184
 a171 := Tryz.isAgg184
 z171 := Tryz.sizeOf184
 v171 := Tryz.zeroValue184
 t173 := Tryz.underlying187
 a173 := Tryz.isAgg187
 z173 := Tryz.sizeOf187
 v173 := Tryz.zeroValue187
 t212 := Tryz.underlying199
 a212 := Tryz.isAgg199
 z212 := Tryz.sizeOf199
 v212 := Tryz.zeroValue199
 t213 := Tryz.underlying200
 a213 := Tryz.isAgg200
 z213 := Tryz.sizeOf200
 t232 := Tryz.underlying209
 a232 := Tryz.isAgg209
 z232 := Tryz.sizeOf209
 v232 := Tryz.zeroValue209
 t233 := Tryz.underlying210
 a233 := Tryz.isAgg210
 z233 := Tryz.sizeOf210
 v233 := Tryz.zeroValue210
 g17 := by kernel_rfl
 g18 := by kernel_rfl
 g19 := by kernel_rfl
 i0 := by kernel_rfl
 i2 := by kernel_rfl
 i3 := by kernel_rfl
 i4 := by kernel_rfl
 i5 := by kernel_rfl
 i9 := by kernel_rfl
 i20 := by kernel_rfl
 i37 := by kernel_rfl
 i46 := by kernel_rfl
 i51 := by kernel_rfl
 i53 := by kernel_rfl
 i171 := by kernel_rfl
 i173 := by kernel_rfl
 i212 := by kernel_rfl
 i232 := by kernel_rfl
 i233 := by kernel_rfl
 m17 := by kernel_rfl
 m18 := by kernel_rfl
 m19 := by kernel_rfl }
def Tryz.lays283_ren : Go.Shelf.Ren := ⟨fun | 283 => 170 | n => n, fun | 3 => 3 | 9 => 9 | 4 => 4 | n => n, fun | n => n⟩
theorem Tryz.lays283 : Go.Proofs.Lays.n283 Tryz.prog Tryz.lays283_ren := {
 mixed := by kernel_rfl
 f283 := Tryz.func170.trans (congrArg some (by kernel_rfl))
 t3 := Tryz.underlying3
 a3 := Tryz.isAgg3
 z3 := Tryz.sizeOf3
 v3 := Tryz.zeroValue3
 t4 := Tryz.underlying4
 a4 := Tryz.isAgg4
 z4 := Tryz.sizeOf4
 v4 := Tryz.zeroValue4
 t9 := Tryz.underlying9
 a9 := Tryz.isAgg9
 z9 := Tryz.sizeOf9
 v9 := Tryz.zeroValue9 }
def Tryz.laysM284_ren : Go.Shelf.Ren := ⟨fun | 284 => 171 | 129 => 184 | 317 => 186 | 318 => 187 | n => n, fun | 53 => 88 | 3 => 3 | 212 => 199 | 0 => 0 | 4 => 4 | 46 => 86 | 5 => 5 | 9 => 9 | n => n, fun | 17 => 0 | n => n⟩
theorem Tryz.laysM284 : Go.Proofs.LaysM.n284 Tryz.prog Tryz.laysM284_ren := {
 mixed := by kernel_rfl
 f129 := Tryz.func184.trans (congrArg some (by kernel_rfl))
 f284 := Tryz.func171.trans (congrArg some (by kernel_rfl))
 f317 := Tryz.func186.trans (congrArg some (by kernel_rfl))
 f318 := Tryz.func187.trans (congrArg some (by kernel_rfl))
 t0 := Tryz.underlying0
 a0 := Tryz.isAgg0
 z0 := Tryz.sizeOf0
 v0 := Tryz.zeroValue0
 t3 := Tryz.underlying3
 a3 := Tryz.isAgg3
 z3 := Tryz.sizeOf3
 v3 := Tryz.zeroValue3
 t4 := Tryz.underlying4
 a4 := Tryz.isAgg4
 z4 := Tryz.sizeOf4
 v4 := Tryz.zeroValue4
 t5 := Tryz.underlying5
 a5 := Tryz.isAgg5
 z5 := Tryz.sizeOf5
 v5 := Tryz.zeroValue5
 t9 := Tryz.underlying9
 a9 := Tryz.isAgg9
 z9 := Tryz.sizeOf9
 v9 := Tryz.zeroValue9
 t46 := Tryz.underlying86
 a46 := Tryz.isAgg86
 z46 := Tryz.sizeOf86
 v46 := Tryz.zeroValue86
 t53 := Tryz.underlying88
 a53 := Tryz.isAgg88
 z53 := Tryz.sizeOf88
 v53 := Tryz.zeroValue88
 t212 := Tryz.underlying199
 a212 := Tryz.isAgg199
 z212 := Tryz.sizeOf199
 v212 := Tryz.zeroValue199
 g17 := by kernel_rfl
 i0 := by kernel_rfl
 i3 := by kernel_rfl
 i4 := by kernel_rfl
 i5 := by kernel_rfl
 i9 := by kernel_rfl
 i46 := by kernel_rfl
 i53 := by kernel_rfl
 i212 := by kernel_rfl
 m17 := by kernel_rfl }
def Tryz.lays285_ren : Go.Shelf.Ren := ⟨fun | 285 => 172 | n => n, fun | 37 => 29 | 53 => 88 | 3 => 3 | 4 => 4 | 51 => 159 | 9 => 9 | 5 => 5 | 0 => 0 | n => n, fun | n => n⟩
theorem Tryz.lays285 : Go.Proofs.Lays.n285 Tryz.prog Tryz.lays285_ren := {
 mixed := by kernel_rfl
 f285 := Tryz.func172.trans (congrArg some (by kernel_rfl))
 t0 := Tryz.underlying0
 a0 := Tryz.isAgg0
 z0 := Tryz.sizeOf0
 v0 := Tryz.zeroValue0
 t3 := Tryz.underlying3
 a3 := Tryz.isAgg3
 z3 := Tryz.sizeOf3
 v3 := Tryz.zeroValue3
 t4 := Tryz.underlying4
 a4 := Tryz.isAgg4
 z4 := Tryz.sizeOf4
 v4 := Tryz.zeroValue4
 t5 := Tryz.underlying5
 a5 := Tryz.isAgg5
 z5 := Tryz.sizeOf5
 v5 := Tryz.zeroValue5
 t9 := Tryz.underlying9
 a9 := Tryz.isAgg9
 z9 := Tryz.sizeOf9
 v9 := Tryz.zeroValue9
 t37 := Tryz.underlying29
 a37 := Tryz.isAgg29
 z37 := Tryz.sizeOf29
 v37 := Tryz.zeroValue29
 t51 := Tryz.underlying159
 a51 := Tryz.isAgg159
 z51 := Tryz.sizeOf159
 v51 := Tryz.zeroValue159
 t53 := Tryz.underlying88
 a53 := Tryz.isAgg88
 z53 := Tryz.sizeOf88
 v53 := Tryz.zeroValue88 }
def Tryz.lays99_ren : Go.Shelf.Ren := ⟨fun | 99 => 151 | 206 => 166 | n => n, fun | 9 => 9 | 4 => 4 | 3 => 3 | n => n, fun | n => n⟩
theorem Tryz.lays99 : Go.Proofs.Lays.n99 Tryz.prog Tryz.lays99_ren := {
 mixed := by kernel_rfl
 f99 := Tryz.func151.trans (congrArg some (by kernel_rfl))
 f206 := Tryz.func166.trans (congrArg some (by kernel_rfl))
 t3 := Tryz.underlying3
 a3 := Tryz.isAgg3
 z3 := Tryz.sizeOf3
 v3 := Tryz.zeroValue3
 t4 := Tryz.underlying4
 a4 := Tryz.isAgg4
 z4 := Tryz.sizeOf4
 v4 := Tryz.zeroValue4
 t9 := Tryz.underlying9
 a9 := Tryz.isAgg9
 z9 := Tryz.sizeOf9
 v9 := Tryz.zeroValue9 }
def Tryz.laysb115_ren : Go.Shelf.Ren := ⟨fun | 115 => 131 | n => n, fun | 37 => 29 | 4 => 4 | 9 => 9 | 5 => 5 | n => n, fun | n => n⟩
theorem Tryz.laysb115 : Go.Proofs.Lays.nb115 Tryz.prog Tryz.laysb115_ren := {
 mixed := by kernel_rfl
 f115 := Tryz.func131.trans (congrArg some (by kernel_rfl))
 t4 := Tryz.underlying4
 a4 := Tryz.isAgg4
 z4 := Tryz.sizeOf4
 v4 := Tryz.zeroValue4
 t9 := Tryz.underlying9
 a9 := Tryz.isAgg9
 z9 := Tryz.sizeOf9
 v9 := Tryz.zeroValue9
 t37 := Tryz.underlying29
 a37 := Tryz.isAgg29
 z37 := Tryz.sizeOf29
 v37 := Tryz.zeroValue29
 t5 := Tryz.underlying5
 a5 := Tryz.isAgg5
 z5 := Tryz.sizeOf5
 v5 := Tryz.zeroValue5 }
def Tryz.lays2n26_ren : Go.Shelf.Ren := ⟨fun | 26 => 150 | 33 => 164 | 34 => 165 | 38 => 185 | n => n, fun | 24 => 81 | 9 => 9 | 3 => 3 | 4 => 4 | 40 => 86 | 0 => 0 | n => n, fun | n => n⟩
theorem Tryz.lays2n26 : Go.Proofs.Lays2.n26 Tryz.prog Tryz.lays2n26_ren := {
 mixed := by kernel_rfl
 f26 := Tryz.func150.trans (congrArg some (by kernel_rfl))
 f33 := Tryz.func164.trans (congrArg some (by kernel_rfl))
 f34 := Tryz.func165.trans (congrArg some (by kernel_rfl))
 f38 := Tryz.func185.trans (congrArg some (by kernel_rfl))
 t0 := Tryz.underlying0
 a0 := Tryz.isAgg0
 z0 := Tryz.sizeOf0
 v0 := Tryz.zeroValue0
 t3 := Tryz.underlying3
 a3 := Tryz.isAgg3
 z3 := Tryz.sizeOf3
 v3 := Tryz.zeroValue3
 t4 := Tryz.underlying4
 a4 := Tryz.isAgg4
 z4 := Tryz.sizeOf4
 v4 := Tryz.zeroValue4
 t9 := Tryz.underlying9
 a9 := Tryz.isAgg9
 z9 := Tryz.sizeOf9
 v9 := Tryz.zeroValue9
 t24 := Tryz.underlying81
 a24 := Tryz.isAgg81
 z24 := Tryz.sizeOf81
 v24 := Tryz.zeroValue81
 t40 := Tryz.underlying86
 a40 := Tryz.isAgg86
 z40 := Tryz.sizeOf86
 v40 := Tryz.zeroValue86 }
end Go.Proofs

namespace Go.Proofs.YtikkieaokfailaaGreatDoor
open Go.RowKit Go.Joins Go.Sort
def Pw (w : World) : Prop := Lib.TabIs Tryz.prog w "internal/strconv.uint64pow10" .u64 Lib.pow10Tab
theorem Pw.at {w : World} (h : Pw w) : 0 < w.heap.size := by
  unfold Pw Lib.TabIs World.var? at h
  rw [show Tryz.prog.globalNamed "internal/strconv.uint64pow10" = some 0 from by kernel_rfl] at h
  simp only [Option.bind_some] at h
  rcases Nat.lt_or_ge 0 w.heap.size with h' | h'
  · exact h'
  · rw [Array.getElem?_eq_none h'] at h; cases h
theorem Pw.keep {S : Nat → Prop} {w w' : World} (h : Pw w) (hk : Keep S w w') (hs : ¬ S 0) : Pw w' := by
  have hlt := h.at
  unfold Pw Lib.TabIs World.var? at h ⊢
  rw [show Tryz.prog.globalNamed "internal/strconv.uint64pow10" = some 0 from by kernel_rfl] at h ⊢
  simp only [Option.bind_some] at h ⊢
  rw [hk.block 0 hlt hs]
  exact h
theorem Pw.below {w w' : World} (h : Pw w) (hb : Below w.heap.size w w') : Pw w' := h.keep (S := fun _ => False) (Keep.ofBelow hb) (fun h => h)
theorem grow_below (w : World) (k : Nat) (os : Array Obj) : Below w.heap.size w (grow (w.drewN k) os) := by
  refine ⟨rfl, rfl, rfl, ?_, fun j hj => ?_⟩
  · show w.heap.size ≤ (w.heap ++ os).size
    rw [Array.size_append]; omega
  · show (w.heap ++ os)[j]? = w.heap[j]?
    exact Array.getElem?_append_left hj
theorem itoa_any (N : Nat) (hN : N ≤ 9223372036854775807) (w : World) (hP : Pw w) : Calls Tryz.prog 140 #[.int .i64 (N : Int)] w fun e w' => e = .returned (.string ⟨(Lib.decDigits N).toArray⟩) ∧ Below w.heap.size w w' := by
  have h := Any.strconv_Itoa Tryz.laysM171 (N : Int) (by omega) (by omega) w hP
  rw [Lib.itoa_nonneg] at h
  refine h.mono ?_
  rintro e w' ⟨rfl, k, os, rfl⟩
  exact ⟨rfl, grow_below _ _ _⟩
theorem holds_zero0 (w : World) (T : TypeId) (nd : Nat) (hs : nd ≤ 24) : Holds (fun (b : UInt8) => Value.int .u8 (b.toNat : Int)) (w.alloc (.cells Lib.zeros24 T)) w.heap.size 0 (Array.replicate nd (0 : UInt8)) := fun j hj => by
  have hj' : j < nd := by simpa using hj
  refine ⟨?_, World.frozen?_alloc_new _ _ _ _⟩
  rw [World.cell?_alloc_new, Lib.zeros24_at _ (by omega), getElem!_pos _ j hj]
  simp
theorem fin_pos0 (w : World) (o : Obj) (dk : Array UInt8) (k : Nat) : ∃ os, (putRow (fun (b : UInt8) => Value.int .u8 (b.toNat : Int)) (w.alloc o) w.heap.size 0 dk).drewN k = grow (w.drewN k) os := by
  rw [alloc_eq_grow]
  obtain ⟨os', _, e⟩ := putRow_grow_new (fun (b : UInt8) => Value.int .u8 (b.toNat : Int)) w #[o] w.heap.size 0 dk (Nat.le_refl _)
  exact ⟨os', by rw [e]; rfl⟩
set_option maxHeartbeats 6400000 in
set_option maxRecDepth 100000 in
theorem ifmt_any (u : Nat) (hu64 : u < 18446744073709551616) (w : World) (hP : Pw w) : Calls Tryz.prog 158 #[.int .u64 (u : Int), .int .i64 10] w fun e w' => e = .returned (.string ⟨(Lib.decDigits u).toArray⟩) ∧ Below w.heap.size w w' := by
  have hsm := fun (h : u < 100) => Any.internal_strconv_small Tryz.lays283 u h
  have hnd := fun (h : 1 ≤ u) w hP => Any.internal_strconv_numDigits Tryz.laysM284 u h hu64 w hP
  by_cases hs : u < 100
  · have hsm := hsm hs w
    have hlt : (u : Int) < 100 := by omega
    have hcv : IntKind.i64.wrap (u : Int) = (u : Int) := by rw [IntKind.wrap_i64]; omega
    clear hnd
    go_enter Tryz.func158, Tryz.ntmps158
    go_wp2_with (go_at_call 170; refine hsm.mono ?_; rintro e w' ⟨rfl, rfl⟩)
    go_ret
    exact ⟨rfl, Below.refl _ _⟩
  · have hu1 : 1 ≤ u := by omega
    have hnlt : ¬ (u : Int) < 100 := by omega
    have hnd20 : Lib.nDigits u ≤ 20 := by have := Lib.numDigits_eq u hu1 hu64; split at this <;> omega
    have hb3 : Lib.nDigits u ≤ 24 := by omega
    have hal : Tryz.prog.arrayLen 184 = 24 := by kernel_rfl
    obtain ⟨N, HN⟩ : ∃ N, Hid (Lib.nDigits u = N) := ⟨_, rfl⟩
    rw [HN.out] at hb3 hnd20
    have hsl1 : ∀ W, (Instr.sliceAt 184 (.pointer (some ⟨w.heap.size, 0, none⟩)) none (some (.int .i64 (N : Int))) none).run Tryz.prog W = .ok (.slice (some ⟨w.heap.size, 0, none⟩) N 24) W := fun W => by
      rw [run_sliceAt_array_h W 184 ⟨w.heap.size, 0, none⟩ (by simp [Program.arrayLen, Program.elem, Tryz.underlying184]) .i64 (N : Int) (by omega) (by rw [hal]; omega)]
      go_simp
    have hH0 := holds_zero0 w 184 N (by omega)
    have hfmt := Any.internal_strconv_formatBase10 Tryz.lays285 w.heap.size 0 24 u (Array.replicate N 0) (w.alloc (.cells Lib.zeros24 184)) hH0 (by rw [Array.size_replicate, ← HN.out]; exact Lib.lt_pow_nDigits u) hu64 (by rw [Array.size_replicate]; omega)
    rw [Array.size_replicate] at hfmt
    have HH0 := Lib.hid hH0
    have hnd2 := hnd hu1 (w.alloc (.cells Lib.zeros24 184)) (Lib.tabIs_alloc hP _)
    rw [HN.out] at hnd2
    clear hH0 hal hnd hsm
    go_enter Tryz.func158, Tryz.ntmps158
    go_upto_region 6 with (first
      | (go_at_call 171; refine hnd2.mono ?_; rintro e w' ⟨rfl, rfl⟩))
    go_wp2_with (first
      | (go_at_call 172; refine hfmt.mono ?_; rintro e w' ⟨rfl, k, v', dk, rfl, hF⟩
         have hcv : (convert 29 9 (.slice (some ⟨w.heap.size, 0, none⟩) N 24)).run Tryz.prog ((putRow (fun (b : UInt8) => Value.int .u8 (b.toNat : Int)) (w.alloc (.cells Lib.zeros24 184)) w.heap.size 0 dk).drewN k) = .ok (.string ⟨(Lib.decDigits u).toArray⟩) ((putRow (fun (b : UInt8) => Value.int .u8 (b.toNat : Int)) (w.alloc (.cells Lib.zeros24 184)) w.heap.size 0 dk).drewN k) := (by
           have hFu : Lib.FmtInv (Lib.nDigits u) u 0 v' dk := by rw [HN.out]; exact hF
           have h := run_convert_bytes_back (P := Tryz.prog) ((putRow (fun (b : UInt8) => Value.int .u8 (b.toNat : Int)) (w.alloc (.cells Lib.zeros24 184)) w.heap.size 0 dk).drewN k) 29 9 5 ⟨w.heap.size, 0, none⟩ 24 (Lib.decDigits u) Tryz.underlying29 Tryz.underlying5 Tryz.underlying9 (fun j hj => by
             rw [Lib.row_is_numeral hFu j hj, Lib.add_plain, World.cell?_drewN]
             exact cell?_putRow (fun (b : UInt8) => Value.int .u8 (b.toNat : Int)) _ w.heap.size 0 _ dk HH0.out (by rw [hF.size, Array.size_replicate]) j (by rw [hF.size]; rw [Lib.decDigits_length, HN.out] at hj; exact hj))
           rw [Lib.decDigits_length, HN.out] at h
           exact h)))
    go_ret
    obtain ⟨os, eo⟩ := fin_pos0 w (.cells Lib.zeros24 184) dk k
    refine ⟨rfl, ?_⟩
    rw [eo]
    exact grow_below _ _ _
theorem fmt_any (u : Nat) (hu64 : u < 18446744073709551616) (w : World) (hP : Pw w) : Calls Tryz.prog 139 #[.int .u64 (u : Int), .int .i64 10] w fun e w' => e = .returned (.string ⟨(Lib.decDigits u).toArray⟩) ∧ Below w.heap.size w w' := by
  have h := ifmt_any u hu64 w hP
  obtain ⟨T, HT⟩ : ∃ T, (⟨(Lib.decDigits u).toArray⟩ : ByteArray) = T := ⟨_, rfl⟩
  rw [HT] at h ⊢
  go_enter Tryz.func139, Tryz.ntmps139
  go_wp2_with (go_at_call 158; refine h.mono ?_; rintro e w' ⟨rfl, hb⟩)
  go_ret
  exact ⟨rfl, hb⟩
def segN (g i : Nat) : Nm := ⟨([108, 111, 103, 45] ++ Lib.decDigits g ++ [45] ++ Lib.decDigits i).toArray⟩
theorem dig_len20 (u : Nat) (h : u < 18446744073709551616) : (Lib.decDigits u).length ≤ 20 := by
  rw [Lib.decDigits_length]
  by_cases h1 : 1 ≤ u
  · have := Lib.numDigits_eq u h1 h; split at this <;> omega
  · have : u = 0 := by omega
    subst this
    decide +kernel
theorem add_bytes (a b : List UInt8) : ((⟨a.toArray⟩ : ByteArray) ++ (⟨b.toArray⟩ : ByteArray)) = ⟨(a ++ b).toArray⟩ := by
  apply ByteArray.ext
  rw [ByteArray.data_append]
  simp
set_option maxHeartbeats 1000000 in
theorem segment_any (b off g i : Nat) (hg : g < 18446744073709551616) (hi : i ≤ 9223372036854775807) (w : World) (hP : Pw w) (hc : w.cell? ⟨b, off, none⟩ = some (.int .u64 (g : Int))) :
    Calls Tryz.prog 103 #[.pointer (some ⟨b, off, none⟩), .int .i64 (i : Int)] w fun e w' => e = .returned (.string (segN g i)) ∧ Below w.heap.size w w' := by
  have h1 := fmt_any g hg w hP
  have h2 := fun w hP => itoa_any i hi w hP
  have l1 := dig_len20 g hg
  have l2 := dig_len20 i (by omega)
  obtain ⟨Dg, HG⟩ : ∃ D, Hid (Lib.decDigits g = D) := ⟨_, rfl⟩
  obtain ⟨Di, HI⟩ : ∃ D, Hid (Lib.decDigits i = D) := ⟨_, rfl⟩
  have hs : segN g i = ⟨([108, 111, 103, 45] ++ Dg ++ [45] ++ Di).toArray⟩ := by unfold segN; rw [HG.out, HI.out]
  rw [HG.out] at h1 l1
  rw [HI.out] at l2
  simp only [HI.out] at h2
  rw [hs]
  clear hs
  obtain ⟨T1, HT1⟩ : ∃ T, Hid ((⟨Dg.toArray⟩ : ByteArray) = T) := ⟨_, rfl⟩
  obtain ⟨T2, HT2⟩ : ∃ T, Hid ((⟨Di.toArray⟩ : ByteArray) = T) := ⟨_, rfl⟩
  have s1 : T1.size ≤ 20 := by rw [← HT1.out]; show Dg.toArray.size ≤ 20; simpa using l1
  have s2 : T2.size ≤ 20 := by rw [← HT2.out]; show Di.toArray.size ≤ 20; simpa using l2
  have HE : Hid (((⟨#[108, 111, 103, 45]⟩ : ByteArray) ++ T1) ++ (⟨#[45]⟩ : ByteArray) ++ T2 = ⟨([108, 111, 103, 45] ++ Dg ++ [45] ++ Di).toArray⟩) := by
    show _ = _
    rw [← HT1.out, ← HT2.out]
    have e1 : (⟨#[108, 111, 103, 45]⟩ : ByteArray) = ⟨([108, 111, 103, 45] : List UInt8).toArray⟩ := rfl
    have e2 : (⟨#[45]⟩ : ByteArray) = ⟨([45] : List UInt8).toArray⟩ := rfl
    rw [e1, e2, add_bytes, add_bytes, add_bytes]
  rw [HT1.out] at h1
  simp only [HT2.out] at h2
  rw [← HE.out]
  clear l1 l2 HE
  go_enter Tryz.func103, Tryz.ntmps103
  go_wp2_with (first
    | (go_at_call 139; refine h1.mono ?_; rintro e w1 ⟨rfl, hb1⟩)
    | (go_at_call 140; refine (h2 _ (hP.below hb1)).mono ?_; rintro e w2 ⟨rfl, hb2⟩))
  go_ret
  exact ⟨rfl, hb1.trans (hb2.mono hb1.size)⟩
structure Pf (w : World) (F : Nat → Prop) (lb : Nat) : Prop where
  pw : Pw w
  fl : ∀ i, F i → 0 < i
  ll : 0 < lb
theorem Pf.next {w w' : World} {F F' : Nat → Prop} {lb : Nat} (h : Pf w F lb) (hk : Keep (fun i => F i ∨ i = lb) w w') (hF : ∀ i, F' i → F i ∨ w.heap.size ≤ i) : Pf w' F' lb := by
  refine ⟨h.pw.keep hk (fun hs => ?_), fun i hi => ?_, h.ll⟩
  · rcases hs with hs | hs
    · have := h.fl _ hs; omega
    · have := h.ll; omega
  · rcases hF i hi with h1 | h1
    · exact h.fl i h1
    · have := h.pw.at; omega
theorem Pf.below {w w' : World} {F : Nat → Prop} {lb : Nat} (h : Pf w F lb) (hb : Below w.heap.size w w') : Pf w' F lb := ⟨h.pw.below hb, h.fl, h.ll⟩
end Go.Proofs.YtikkieaokfailaaGreatDoor

namespace Go.Proofs.YtikkieaokfailaaGreatDoor
open Go.ChangeShapes Go.WideShapes Go.ChangeAt Go.RowKit
theorem gPw : Tryz.prog.globalNamed "internal/strconv.uint64pow10" = some 0 := by kernel_rfl
theorem gPwType : (Tryz.prog.globals[0]?).map (·.type) = some 199 := by kernel_rfl
theorem cellsPw : Tryz.prog.cellsOf 199 = 20 := by kernel_rfl
theorem cellsU64 : Tryz.prog.cellsOf 88 = 1 := by kernel_rfl
theorem pw_eq : (Rows.laid_internal_strconv_uint64pow10 : DataW Unit) = Lib.tabData .u64 Lib.pow10Tab := rfl
theorem pw_in {enc : TypeId × Value → Unit} {W : World} {base : Nat} {sp : Nat → Bool} {held : Bool} {cs : Array Value} {fuel : Nat} {p : List MemPlace} (hv : W.var? Tryz.prog "internal/strconv.uint64pow10" = some cs) (hd : DataW.trod enc Tryz.prog W base sp held fuel 199 cs.toList = some (Rows.laid_internal_strconv_uint64pow10, p)) : Pw W := by
 rw [pw_eq] at hd
 have hc := Lib.cells_of_tab Tryz.underlying199 Tryz.underlying88 cellsU64 cellsPw hd
 unfold Pw Lib.TabIs
 rw [hv, ← hc]
theorem pw_of {W : World} (h : laidMetH Tryz.prog [("math/bits.deBruijn32tab", Rows.laid_math_bits_deBruijn32tab), ("math/bits.deBruijn64tab", Rows.laid_math_bits_deBruijn64tab), ("internal/strconv.uint64pow10", Rows.laid_internal_strconv_uint64pow10)] W) : Pw W := by
 have h' : laidMet Tryz.prog [("math/bits.deBruijn32tab", Rows.laid_math_bits_deBruijn32tab), ("math/bits.deBruijn64tab", Rows.laid_math_bits_deBruijn64tab), ("internal/strconv.uint64pow10", Rows.laid_internal_strconv_uint64pow10)] W := h
 obtain ⟨ps, ⟨g1, t1, cs1, fuel1, p1, q1, hg1, ht1, hv1, hd1, hr1, _⟩, _⟩ := h'
 obtain ⟨g2, t2, cs2, fuel2, p2, q2, hg2, ht2, hv2, hd2, hr2, _⟩ := hr1
 obtain ⟨g3, t3, cs3, fuel3, p3, q3, hg3, ht3, hv3, hd3, _, _⟩ := hr2
 obtain rfl := Option.some.inj (gPw.symm.trans hg3)
 obtain rfl := Option.some.inj (gPwType.symm.trans ht3)
 exact pw_in hv3 hd3
end Go.Proofs.YtikkieaokfailaaGreatDoor

namespace Go.Proofs.YtikkieaokfailaaGreatDoor
open Go.RowKit
section
variable {P : Program} {ops : Array Oper} {Q : Exit → Act → World → Prop}
variable {U : List Nat} {G : Nat → Value → World → Prop} {W : World} {tm0 : Array Value} {df : List Deferred}
end
end Go.Proofs.YtikkieaokfailaaGreatDoor

namespace Go.Proofs.YtikkieaokfailaaGreatDoor
open Go.RowKit
theorem rd_one (w : World) (x : Int) (h0 : 0 ≤ x) (h1 : x ≤ 255) : Rd (w.alloc (.cells #[.int .u8 x] 5)) (some ⟨w.heap.size, 0, none⟩) 1 1 [x] := by
 refine ⟨rfl, Nat.le_refl _, by unfold maxLen; omega, (fun h => by cases h), (fun q hq => by simp at hq; omega), fun ad had j hj => ?_⟩
 cases had
 rw [add_flat]
 match j, hj with
 | 0, _ => unfold World.cell?; rw [World.alloc_heap_new]; rfl
theorem wp_app1K {wr : World} {ops : Array Oper} {rest : List Oper} {o : Oper} {a : Act} {Q : Exit → Act → World → Prop} (hgd : o.guard = none) (s x : Operand)
  (ho : o.op = .call { callee := .builtin .append, args := #[s, x], argTypes := #[29, 29] })
  (base : Nat) (v : Value) (n : Nat) (xs : List Int) (hs : a.eval s = v) (hown : wr.ownsRow base 5 1 v n (bc xs)) (x0 : Int) (h0 : 0 ≤ x0) (h1 : x0 ≤ 255) (hx : a.eval x = .slice (some ⟨wr.heap.size, 0, none⟩) 1 1) (hb : n ≤ 100000000) (hbase : base ≤ wr.heap.size)
  (h : ∀ v' w', w'.ownsRow base 5 1 v' (n + 1) (bc (xs ++ [x0])) → Below base wr w' → wpList Tryz.prog ops Q rest (a.put o.dst v') w') : wpList Tryz.prog ops Q (o :: rest) a (wr.alloc (.cells #[.int .u8 x0] 5)) := by
 refine wp_appK hgd s x ho base v n xs hs (hown.alloc _) _ 1 1 [x0] hx (rd_one wr x0 h0 h1) (by omega) (by rw [World.size_alloc]; omega) ?_
 intro v' w' h1 h2 _
 exact h v' w' h1 (below_step (Below.refl _ _) hbase hown h2)
end Go.Proofs.YtikkieaokfailaaGreatDoor

namespace Go.Proofs.YtikkieaokfailaaGreatDoor
open Go.RowKit
def sb (r : BitVec 32) : BitVec 32 := (r >>> 1) ^^^ (if r.getLsbD 0 then 0xedb88320#32 else 0#32)
def sh (r : BitVec 32) : Nat → BitVec 32
 | 0 => r
 | k + 1 => sb (sh r k)
def byB (x : Int) : BitVec 32 := BitVec.ofInt 32 x
def reg (r : BitVec 32) : List Int → BitVec 32
 | [] => r
 | x :: xs => reg (sh (r ^^^ byB x) 8) xs
def more (s : BitVec 32) (xs : List Int) : BitVec 32 := ~~~ (reg (~~~ s) xs)
theorem reg_append (r : BitVec 32) (xs ys : List Int) : reg r (xs ++ ys) = reg (reg r xs) ys := by
 induction xs generalizing r with
 | nil => rfl
 | cons x xs ih => exact ih _
def uw (r : BitVec 32) : Int := (r.toNat : Int)
theorem wrap_uw (r : BitVec 32) : IntKind.u32.wrap (r.toNat : Int) = uw r := by
 have := r.isLt
 rw [IntKind.wrap_u32]; unfold uw; omega
theorem ofInt_uw (r : BitVec 32) : BitVec.ofInt 32 (uw r) = r := by
 unfold uw; rw [BitVec.ofInt_natCast, BitVec.ofNat_toNat, BitVec.setWidth_eq]
theorem xor_byte (a : BitVec 32) (x : Int) : bits .xor .u32 (uw a) x = uw (a ^^^ byB x) := by
 show IntKind.u32.wrap ((BitVec.ofInt 32 (uw a) ^^^ BitVec.ofInt 32 x).toNat : Int) = _
 rw [ofInt_uw, wrap_uw]; rfl
theorem not_uw (a : BitVec 32) : bits .xor .u32 IntKind.u32.max (uw a) = uw (~~~ a) := by
 show IntKind.u32.wrap ((BitVec.ofInt 32 IntKind.u32.max ^^^ BitVec.ofInt 32 (uw a)).toNat : Int) = _
 rw [ofInt_uw, wrap_uw]
 have : BitVec.ofInt 32 IntKind.u32.max = BitVec.allOnes 32 := by decide
 rw [this, BitVec.allOnes_xor]
theorem and_uw (a : BitVec 32) : bits .and .u32 (uw a) 1 = if a.getLsbD 0 then 1 else 0 := by
 show IntKind.u32.wrap ((BitVec.ofInt 32 (uw a) &&& BitVec.ofInt 32 1).toNat : Int) = _
 rw [ofInt_uw, wrap_uw, uw, BitVec.toNat_and, show (BitVec.ofInt 32 1).toNat = 1 from by decide, Nat.and_one_is_mod]
 have hb : a.getLsbD 0 = decide (a.toNat % 2 = 1) := Nat.testBit_zero _
 rw [hb]
 by_cases h : a.toNat % 2 = 1
 ·simp [h]
 ·have h2 : a.toNat % 2 = 0 := by omega
  simp [h2]
theorem shr_uw (a : BitVec 32) : (uw a) / (2 : Int) = uw (a >>> (1 : Nat)) := by
 unfold uw; rw [BitVec.toNat_ushiftRight, Nat.shiftRight_eq_div_pow]; simp
theorem poly_uw (a : BitVec 32) : bits .xor .u32 (uw a) 3988292384 = uw (a ^^^ 0xedb88320#32) := xor_byte a 3988292384
end Go.Proofs.YtikkieaokfailaaGreatDoor

namespace Go.Proofs.YtikkieaokfailaaGreatDoor
open Go.RowKit
theorem sb_one {r : BitVec 32} (h : r.getLsbD 0 = true) : sb r = (r >>> 1) ^^^ 0xedb88320#32 := by unfold sb; rw [h]; rfl
theorem sb_nil {r : BitVec 32} (h : r.getLsbD 0 = false) : sb r = r >>> 1 := by unfold sb; rw [h]; simp
set_option maxRecDepth 100000 in
set_option maxHeartbeats 800000 in
theorem shifted_any (r : BitVec 32) (w : World) :
  Calls Tryz.prog 169 #[.int .u32 (uw r)] w fun e w' => e = .returned (.int .u32 (uw (sh r 8))) ∧ w' = w := by
 go_enter Tryz.func169, Tryz.ntmps169
 go_wp2_with fail
 go_loopw [0, 3, 4] (fun v f i wr => ∃ k : Nat, k ≤ 8 ∧ i = .int .i64 k ∧ v = .int .u32 (uw (sh r k)) ∧ wr = w) (fun _ _ i _ => 8 - (intOf i).toNat)
 case atStart => exact ⟨0, by omega, rfl, rfl, rfl⟩
 case round =>
  obtain ⟨k, hk, rfl, rfl, rfl⟩ := hrel
  by_cases hlt : k < 8
  ·have hcl : (k : Int) < 8 := by omega
   have hs : sh r (k + 1) = sb (sh r k) := rfl
   have ha := and_uw (sh r k)
   have hd := shr_uw (sh r k)
   have hp := poly_uw (sh r k >>> 1)
   cases hb : (sh r k).getLsbD 0 with
   | true =>
    rw [hb] at ha
    rw [sb_one hb] at hs
    have ha' : bits .and .u32 (uw (sh r k)) 1 = 1 := ha
    clear ha hb
    go_wp2
    exact ⟨⟨k + 1, by omega, by go_num, by rw [hs], trivial⟩, by simp [intOf]; omega⟩
   | false =>
    rw [hb] at ha
    rw [sb_nil hb] at hs
    have ha' : bits .and .u32 (uw (sh r k)) 1 = 0 := ha
    clear ha hb
    go_wp2
    exact ⟨⟨k + 1, by omega, by go_num, by rw [hs], trivial⟩, by simp [intOf]; omega⟩
  ·obtain rfl : k = 8 := by omega
   have hcl2 : ¬ ((8 : Nat) : Int) < 8 := by omega
   go_wp2
   go_ret
   exact ⟨rfl, rfl⟩
theorem reg_take (r : BitVec 32) (xs : List Int) (k : Nat) (h : k < xs.length) : reg r (xs.take (k + 1)) = sh (reg r (xs.take k) ^^^ byB (xs.getD k 0)) 8 := by
 rw [List.take_succ_eq_append_getElem h, reg_append]
 have : xs.getD k 0 = xs[k] := by simp [List.getD, List.getElem?_eq_getElem h]
 rw [this]; rfl
set_option maxRecDepth 100000 in
set_option maxHeartbeats 800000 in
theorem more_any (s : BitVec 32) (a : Option Addr) (n c : Nat) (xs : List Int) (w : World) (hR : Rd w a n c xs) :
  Calls Tryz.prog 157 #[.int .u32 (uw s), .slice a n c] w fun e w' => e = .returned (.int .u32 (uw (more s xs))) ∧ w' = w := by
 have hl := hR.len
 have hcp := hR.cap
 have hmx : c ≤ 9223372036854775807 := hR.most
 have hN1 := not_uw s
 have HR : Hid (Rd w a n c xs) := hR
 have HL : Hid (xs.length = n) := hl
 clear hR hl
 go_enter Tryz.func157, Tryz.ntmps157
 go_wp2_with fail
 go_loopw [5, 7, 12] (fun v f i wr => ∃ k : Nat, k ≤ n ∧ i = .int .i64 k ∧ v = .int .u32 (uw (reg (~~~ s) (xs.take k))) ∧ wr = w) (fun _ _ i _ => n - (intOf i).toNat)
 case atStart => exact ⟨0, by omega, rfl, rfl, rfl⟩
 case round =>
  obtain ⟨k, hk, rfl, rfl, hw⟩ := hrel
  replace hw := hw.symm
  subst hw
  by_cases hlt : k < n
  ·have hcl : (k : Int) < (n : Int) := by omega
   obtain ⟨b, off, rfl, hce⟩ := HR.out.flat (by omega)
   have hc1 := hce k hlt
   have hbx := HR.out.bytes.get k
   have hst := reg_take (~~~ s) xs k (by rw [HL.out]; exact hlt)
   have hxb := xor_byte (reg (~~~ s) (xs.take k)) (xs.getD k 0)
   obtain ⟨x, HX⟩ : ∃ x, Hid (xs.getD k 0 = x) := ⟨_, rfl⟩
   rw [HX.out] at hc1 hbx hst hxb
   have hx32 : x % 4294967296 = x := by omega
   have hst' : Hid (_ = _) := hst
   obtain ⟨R, HRg⟩ : ∃ R, Hid (reg (~~~ s) (xs.take k) = R) := ⟨_, rfl⟩
   rw [HRg.out] at hxb hst' ⊢
   clear hst hce hN1
   go_wp2_with (go_at_call 169; refine (shifted_any (R ^^^ byB x) _).mono ?_; rintro e w' ⟨rfl, rfl⟩)
   exact ⟨⟨k + 1, by omega, by go_num, by rw [hst'.out], trivial⟩, by simp [intOf]; omega⟩
  ·obtain rfl : k = n := by omega
   have hcl2 : ¬ (k : Int) < (k : Int) := by omega
   have ht : xs.take k = xs := List.take_of_length_le (by rw [HL.out]; omega)
   rw [ht]
   have hN2 := not_uw (reg (~~~ s) xs)
   clear ht hN1
   go_wp2
   go_ret
   exact ⟨rfl, rfl⟩
theorem sum_any (a : Option Addr) (n c : Nat) (xs : List Int) (w : World) (hR : Rd w a n c xs) :
  Calls Tryz.prog 137 #[.slice a n c] w fun e w' => e = .returned (.int .u32 (uw (more 0#32 xs))) ∧ w' = w := by
 have hM := fun u (h : Rd u a n c xs) => more_any 0#32 a n c xs u h
 go_enter Tryz.func137, Tryz.ntmps137
 go_wp2_with (go_at_call 157; refine (hM _ hR).mono ?_; rintro e w' ⟨rfl, rfl⟩)
 go_ret
 exact ⟨rfl, rfl⟩
set_option maxRecDepth 100000 in
set_option maxHeartbeats 1600000 in
theorem refMore_any (s : BitVec 32) (a : Option Addr) (n c : Nat) (xs : List Int) (w : World) (hR : Rd w a n c xs) :
  Calls Tryz.prog 148 #[.int .u32 (uw s), .slice a n c] w fun e w' => e = .returned (.int .u32 (uw (more s xs))) ∧ w' = w := by
 have hcp := hR.cap
 have hmx : c ≤ 9223372036854775807 := hR.most
 have hN1 := not_uw s
 have HL : Hid (xs.length = n) := hR.len
 have HR : Hid (Rd w a n c xs) := hR
 clear hR
 go_enter Tryz.func148, Tryz.ntmps148
 go_wp2_with fail
 go_loopw [5, 6, 7] (fun v i f wr => ∃ k : Nat, k ≤ n ∧ i = .int .i64 k ∧ v = .int .u32 (uw (reg (~~~ s) (xs.take k))) ∧ wr = w) (fun _ i _ _ => n - (intOf i).toNat)
 case atStart => exact ⟨0, by omega, rfl, rfl, rfl⟩
 case round =>
  obtain ⟨k, hk, rfl, rfl, hw⟩ := hrel
  replace hw := hw.symm
  subst hw
  by_cases hlt : k < n
  ·have hcl : (k : Int) < (n : Int) := by omega
   obtain ⟨b, off, rfl, hce⟩ := HR.out.flat (by omega)
   have hc1 := hce k hlt
   have hbx := HR.out.bytes.get k
   have hst := reg_take (~~~ s) xs k (by rw [HL.out]; exact hlt)
   have hxb := xor_byte (reg (~~~ s) (xs.take k)) (xs.getD k 0)
   obtain ⟨x, HX⟩ : ∃ x, Hid (xs.getD k 0 = x) := ⟨_, rfl⟩
   rw [HX.out] at hc1 hbx hst hxb
   have hx32 : x % 4294967296 = x := by omega
   have hst' : Hid (_ = _) := hst
   obtain ⟨R, HRg⟩ : ∃ R, Hid (reg (~~~ s) (xs.take k) = R) := ⟨_, rfl⟩
   rw [HRg.out] at hxb hst' ⊢
   clear hst hce hN1
   go_wp2_with fail
   have hr0 : R ^^^ byB x = sh (R ^^^ byB x) 0 := rfl
   go_loopw [5, 7] (fun v i w2 => ∃ j : Nat, j ≤ 8 ∧ i = .int .i64 j ∧ v = .int .u32 (uw (sh (R ^^^ byB x) j)) ∧ w2 = w) (fun _ i _ => 8 - (intOf i).toNat)
   case atStart => exact ⟨0, by omega, rfl, rfl, rfl⟩
   case round =>
    obtain ⟨j, hj, rfl, rfl, hw2⟩ := hrel
    replace hw2 := hw2.symm
    subst hw2
    clear hxb hc1 hr0
    by_cases hlt2 : j < 8
    ·have hcl3 : (j : Int) < 8 := by omega
     have hs : sh (R ^^^ byB x) (j + 1) = sb (sh (R ^^^ byB x) j) := rfl
     have ha := and_uw (sh (R ^^^ byB x) j)
     have hd := shr_uw (sh (R ^^^ byB x) j)
     have hp := poly_uw (sh (R ^^^ byB x) j >>> 1)
     cases hb : (sh (R ^^^ byB x) j).getLsbD 0 with
     | true =>
      rw [hb] at ha
      rw [sb_one hb] at hs
      have ha' : bits .and .u32 (uw (sh (R ^^^ byB x) j)) 1 = 1 := ha
      have hs' : Hid (_ = _) := hs
      clear ha hb hs
      go_wp2
      exact ⟨⟨j + 1, by omega, by go_num, by rw [hs'.out], trivial⟩, by simp [intOf]; omega⟩
     | false =>
      rw [hb] at ha
      rw [sb_nil hb] at hs
      have ha' : bits .and .u32 (uw (sh (R ^^^ byB x) j)) 1 = 0 := ha
      have hs' : Hid (_ = _) := hs
      clear ha hb hs
      go_wp2
      exact ⟨⟨j + 1, by omega, by go_num, by rw [hs'.out], trivial⟩, by simp [intOf]; omega⟩
    ·obtain rfl : j = 8 := by omega
     have hcl4 : ¬ ((8 : Nat) : Int) < 8 := by omega
     go_wp2
     exact ⟨⟨k + 1, by omega, by go_num, by rw [hst'.out], trivial⟩, by simp [intOf]; omega⟩
  ·obtain rfl : k = n := by omega
   have hcl2 : ¬ (k : Int) < (k : Int) := by omega
   have ht : xs.take k = xs := List.take_of_length_le (by rw [HL.out]; omega)
   rw [ht]
   have hN2 := not_uw (reg (~~~ s) xs)
   clear ht hN1
   go_wp2
   go_ret
   exact ⟨rfl, rfl⟩
theorem refSum_any (a : Option Addr) (n c : Nat) (xs : List Int) (w : World) (hR : Rd w a n c xs) :
  Calls Tryz.prog 122 #[.slice a n c] w fun e w' => e = .returned (.int .u32 (uw (more 0#32 xs))) ∧ w' = w := by
 have hM := fun u (h : Rd u a n c xs) => refMore_any 0#32 a n c xs u h
 go_enter Tryz.func122, Tryz.ntmps122
 go_wp2_with (go_at_call 148; refine (hM _ hR).mono ?_; rintro e w' ⟨rfl, rfl⟩)
 go_ret
 exact ⟨rfl, rfl⟩
end Go.Proofs.YtikkieaokfailaaGreatDoor

namespace Go.Proofs.YtikkieaokfailaaGreatDoor
open Go.RowKit Go.Joins
def bigL (s n : Nat) : List Int := (List.range s).map fun i => ((n / 256 ^ (s - 1 - i) % 256 : Nat) : Int)
theorem bigL_len (s n : Nat) : (bigL s n).length = s := by simp [bigL]
theorem bigL_bd (s n : Nat) : Bd (bigL s n) := by
 intro x hx
 obtain ⟨i, _, rfl⟩ := List.mem_map.1 hx
 have : n / 256 ^ (s - 1 - i) % 256 < 256 := Nat.mod_lt _ (by decide)
 omega
theorem big4 (n : Nat) : bigL 4 n = [(n : Int) / 16777216 % 256, (n : Int) / 65536 % 256, (n : Int) / 256 % 256, (n : Int) % 256] := by
 have e : bigL 4 n = [((n / 256 ^ 3 % 256 : Nat) : Int), ((n / 256 ^ 2 % 256 : Nat) : Int), ((n / 256 ^ 1 % 256 : Nat) : Int), ((n / 256 ^ 0 % 256 : Nat) : Int)] := rfl
 rw [e]
 simp only [List.cons.injEq, and_true]
 refine ⟨?_, ?_, ?_, ?_⟩ <;> omega
set_option maxRecDepth 100000 in
set_option maxHeartbeats 2000000 in
theorem put4_any (B : Nat) (v : Value) (m : Nat) (xs : List Int) (n : Nat) (hm : m ≤ 2000000) (w : World) (hB : B ≤ w.heap.size) (hown : w.ownsRow B 5 1 v m (bc xs)) :
  Calls Tryz.prog 136 #[v, .int .u64 (n : Int), .int .i64 4] w fun e w' => ∃ v', e = .returned v' ∧ w'.ownsRow B 5 1 v' (m + 4) (bc (xs ++ bigL 4 n)) ∧ Below B w w' := by
 have HE : Hid (bigL 4 n = [(n : Int) / 16777216 % 256, (n : Int) / 65536 % 256, (n : Int) / 256 % 256, (n : Int) % 256]) := big4 n
 have l0 : 0 ≤ (n : Int) / 16777216 % 256 ∧ (n : Int) / 16777216 % 256 ≤ 255 := by omega
 have l1 : 0 ≤ (n : Int) / 65536 % 256 ∧ (n : Int) / 65536 % 256 ≤ 255 := by omega
 have l2 : 0 ≤ (n : Int) / 256 % 256 ∧ (n : Int) / 256 % 256 ≤ 255 := by omega
 have l3 : 0 ≤ (n : Int) % 256 ∧ (n : Int) % 256 ≤ 255 := by omega
 have hb0 : Below B w w := Below.refl _ _
 go_enter Tryz.func136, Tryz.ntmps136
 go_wp2_with fail
 refine wp_loop_rounds 5 ?_
 rw [rounds_succ]
 go_wp2_with (at_builtin; refine wp_app1K (wr := w) rfl _ _ rfl B v (m + 0) (xs) rfl hown ((n : Int) / 16777216 % 256) l0.1 l0.2 rfl (by omega) (Nat.le_trans hB hb0.size) ?_; intro v1 w1 o1 b1)
 have hb1 := hb0.trans b1
 rw [rounds_succ]
 go_wp2_with (at_builtin; refine wp_app1K (wr := w1) rfl _ _ rfl B v1 (m + 1) (xs ++ [(n : Int) / 16777216 % 256]) rfl o1 ((n : Int) / 65536 % 256) l1.1 l1.2 rfl (by omega) (Nat.le_trans hB hb1.size) ?_; intro v2 w2 o2 b2)
 have hb2 := hb1.trans b2
 rw [rounds_succ]
 go_wp2_with (at_builtin; refine wp_app1K (wr := w2) rfl _ _ rfl B v2 (m + 2) ((xs ++ [(n : Int) / 16777216 % 256]) ++ [(n : Int) / 65536 % 256]) rfl o2 ((n : Int) / 256 % 256) l2.1 l2.2 rfl (by omega) (Nat.le_trans hB hb2.size) ?_; intro v3 w3 o3 b3)
 have hb3 := hb2.trans b3
 rw [rounds_succ]
 go_wp2_with (at_builtin; refine wp_app1K (wr := w3) rfl _ _ rfl B v3 (m + 3) (((xs ++ [(n : Int) / 16777216 % 256]) ++ [(n : Int) / 65536 % 256]) ++ [(n : Int) / 256 % 256]) rfl o3 ((n : Int) % 256) l3.1 l3.2 rfl (by omega) (Nat.le_trans hB hb3.size) ?_; intro v4 w4 o4 b4)
 have hb4 := hb3.trans b4
 rw [rounds_succ]
 go_wp2
 go_ret
 refine ⟨_, rfl, ?_, hb4⟩
 rw [HE.out]
 simpa [List.append_assoc, Nat.add_assoc] using o4
theorem big8 (n : Nat) : bigL 8 n = [(n : Int) / 72057594037927936 % 256, (n : Int) / 281474976710656 % 256, (n : Int) / 1099511627776 % 256, (n : Int) / 4294967296 % 256, (n : Int) / 16777216 % 256, (n : Int) / 65536 % 256, (n : Int) / 256 % 256, (n : Int) % 256] := by
 have e : bigL 8 n = [((n / 256 ^ 7 % 256 : Nat) : Int), ((n / 256 ^ 6 % 256 : Nat) : Int), ((n / 256 ^ 5 % 256 : Nat) : Int), ((n / 256 ^ 4 % 256 : Nat) : Int), ((n / 256 ^ 3 % 256 : Nat) : Int), ((n / 256 ^ 2 % 256 : Nat) : Int), ((n / 256 ^ 1 % 256 : Nat) : Int), ((n / 256 ^ 0 % 256 : Nat) : Int)] := rfl
 rw [e]
 simp only [List.cons.injEq, and_true]
 refine ⟨?_, ?_, ?_, ?_, ?_, ?_, ?_, ?_⟩ <;> omega
set_option maxRecDepth 100000 in
set_option maxHeartbeats 2000000 in
theorem put8_any (B : Nat) (v : Value) (m : Nat) (xs : List Int) (n : Nat) (hm : m ≤ 2000000) (w : World) (hB : B ≤ w.heap.size) (hown : w.ownsRow B 5 1 v m (bc xs)) :
  Calls Tryz.prog 136 #[v, .int .u64 (n : Int), .int .i64 8] w fun e w' => ∃ v', e = .returned v' ∧ w'.ownsRow B 5 1 v' (m + 8) (bc (xs ++ bigL 8 n)) ∧ Below B w w' := by
 have HE : Hid (bigL 8 n = [(n : Int) / 72057594037927936 % 256, (n : Int) / 281474976710656 % 256, (n : Int) / 1099511627776 % 256, (n : Int) / 4294967296 % 256, (n : Int) / 16777216 % 256, (n : Int) / 65536 % 256, (n : Int) / 256 % 256, (n : Int) % 256]) := big8 n
 have l0 : 0 ≤ (n : Int) / 72057594037927936 % 256 ∧ (n : Int) / 72057594037927936 % 256 ≤ 255 := by omega
 have l1 : 0 ≤ (n : Int) / 281474976710656 % 256 ∧ (n : Int) / 281474976710656 % 256 ≤ 255 := by omega
 have l2 : 0 ≤ (n : Int) / 1099511627776 % 256 ∧ (n : Int) / 1099511627776 % 256 ≤ 255 := by omega
 have l3 : 0 ≤ (n : Int) / 4294967296 % 256 ∧ (n : Int) / 4294967296 % 256 ≤ 255 := by omega
 have l4 : 0 ≤ (n : Int) / 16777216 % 256 ∧ (n : Int) / 16777216 % 256 ≤ 255 := by omega
 have l5 : 0 ≤ (n : Int) / 65536 % 256 ∧ (n : Int) / 65536 % 256 ≤ 255 := by omega
 have l6 : 0 ≤ (n : Int) / 256 % 256 ∧ (n : Int) / 256 % 256 ≤ 255 := by omega
 have l7 : 0 ≤ (n : Int) % 256 ∧ (n : Int) % 256 ≤ 255 := by omega
 have hb0 : Below B w w := Below.refl _ _
 go_enter Tryz.func136, Tryz.ntmps136
 go_wp2_with fail
 refine wp_loop_rounds 9 ?_
 rw [rounds_succ]
 go_wp2_with (at_builtin; refine wp_app1K (wr := w) rfl _ _ rfl B v (m + 0) (xs) rfl hown ((n : Int) / 72057594037927936 % 256) l0.1 l0.2 rfl (by omega) (Nat.le_trans hB hb0.size) ?_; intro v1 w1 o1 b1)
 have hb1 := hb0.trans b1
 rw [rounds_succ]
 go_wp2_with (at_builtin; refine wp_app1K (wr := w1) rfl _ _ rfl B v1 (m + 1) (xs ++ [(n : Int) / 72057594037927936 % 256]) rfl o1 ((n : Int) / 281474976710656 % 256) l1.1 l1.2 rfl (by omega) (Nat.le_trans hB hb1.size) ?_; intro v2 w2 o2 b2)
 have hb2 := hb1.trans b2
 rw [rounds_succ]
 go_wp2_with (at_builtin; refine wp_app1K (wr := w2) rfl _ _ rfl B v2 (m + 2) ((xs ++ [(n : Int) / 72057594037927936 % 256]) ++ [(n : Int) / 281474976710656 % 256]) rfl o2 ((n : Int) / 1099511627776 % 256) l2.1 l2.2 rfl (by omega) (Nat.le_trans hB hb2.size) ?_; intro v3 w3 o3 b3)
 have hb3 := hb2.trans b3
 rw [rounds_succ]
 go_wp2_with (at_builtin; refine wp_app1K (wr := w3) rfl _ _ rfl B v3 (m + 3) (((xs ++ [(n : Int) / 72057594037927936 % 256]) ++ [(n : Int) / 281474976710656 % 256]) ++ [(n : Int) / 1099511627776 % 256]) rfl o3 ((n : Int) / 4294967296 % 256) l3.1 l3.2 rfl (by omega) (Nat.le_trans hB hb3.size) ?_; intro v4 w4 o4 b4)
 have hb4 := hb3.trans b4
 rw [rounds_succ]
 go_wp2_with (at_builtin; refine wp_app1K (wr := w4) rfl _ _ rfl B v4 (m + 4) ((((xs ++ [(n : Int) / 72057594037927936 % 256]) ++ [(n : Int) / 281474976710656 % 256]) ++ [(n : Int) / 1099511627776 % 256]) ++ [(n : Int) / 4294967296 % 256]) rfl o4 ((n : Int) / 16777216 % 256) l4.1 l4.2 rfl (by omega) (Nat.le_trans hB hb4.size) ?_; intro v5 w5 o5 b5)
 have hb5 := hb4.trans b5
 rw [rounds_succ]
 go_wp2_with (at_builtin; refine wp_app1K (wr := w5) rfl _ _ rfl B v5 (m + 5) (((((xs ++ [(n : Int) / 72057594037927936 % 256]) ++ [(n : Int) / 281474976710656 % 256]) ++ [(n : Int) / 1099511627776 % 256]) ++ [(n : Int) / 4294967296 % 256]) ++ [(n : Int) / 16777216 % 256]) rfl o5 ((n : Int) / 65536 % 256) l5.1 l5.2 rfl (by omega) (Nat.le_trans hB hb5.size) ?_; intro v6 w6 o6 b6)
 have hb6 := hb5.trans b6
 rw [rounds_succ]
 go_wp2_with (at_builtin; refine wp_app1K (wr := w6) rfl _ _ rfl B v6 (m + 6) ((((((xs ++ [(n : Int) / 72057594037927936 % 256]) ++ [(n : Int) / 281474976710656 % 256]) ++ [(n : Int) / 1099511627776 % 256]) ++ [(n : Int) / 4294967296 % 256]) ++ [(n : Int) / 16777216 % 256]) ++ [(n : Int) / 65536 % 256]) rfl o6 ((n : Int) / 256 % 256) l6.1 l6.2 rfl (by omega) (Nat.le_trans hB hb6.size) ?_; intro v7 w7 o7 b7)
 have hb7 := hb6.trans b7
 rw [rounds_succ]
 go_wp2_with (at_builtin; refine wp_app1K (wr := w7) rfl _ _ rfl B v7 (m + 7) (((((((xs ++ [(n : Int) / 72057594037927936 % 256]) ++ [(n : Int) / 281474976710656 % 256]) ++ [(n : Int) / 1099511627776 % 256]) ++ [(n : Int) / 4294967296 % 256]) ++ [(n : Int) / 16777216 % 256]) ++ [(n : Int) / 65536 % 256]) ++ [(n : Int) / 256 % 256]) rfl o7 ((n : Int) % 256) l7.1 l7.2 rfl (by omega) (Nat.le_trans hB hb7.size) ?_; intro v8 w8 o8 b8)
 have hb8 := hb7.trans b8
 rw [rounds_succ]
 go_wp2
 go_ret
 refine ⟨_, rfl, ?_, hb8⟩
 rw [HE.out]
 simpa [List.append_assoc, Nat.add_assoc] using o8
def numK (xs : List Int) : Nat → Nat
 | 0 => 0
 | k + 1 => numK xs k * 256 + (xs.getD k 0).toNat
def numL (xs : List Int) : Nat := numK xs xs.length
theorem numK_lt {xs : List Int} (hb : Bd xs) : ∀ k, numK xs k < 256 ^ k
 | 0 => by simp [numK]
 | k + 1 => by
  have h1 := numK_lt hb k
  have h2 : (xs.getD k 0).toNat < 256 := by have := hb.get k; omega
  show numK xs k * 256 + _ < 256 ^ (k + 1)
  rw [Nat.pow_succ]
  omega
theorem or_beN {acc : Nat} {z : Int} (h0 : 0 ≤ z) (h1 : z ≤ 255) (ha : acc < 72057594037927936) : bits .or .u64 ((acc : Int) * 256) z = ((acc * 256 + z.toNat : Nat) : Int) := by
 obtain ⟨d, rfl, hd⟩ : ∃ d : Nat, z = (d : Int) ∧ d < 256 := ⟨z.toNat, by omega, by omega⟩
 have e1 : ((acc : Int) * 256) = ((acc * 256 : Nat) : Int) := by omega
 rw [e1, bits_or_u64_nat _ _ (by omega) (by omega)]
 congr 1
 have e2 : acc * 256 = acc <<< 8 := by rw [Nat.shiftLeft_eq]
 rw [e2, ← Nat.shiftLeft_add_eq_or_of_lt (show d < 2 ^ 8 by omega)]
 simp
set_option maxHeartbeats 800000 in
theorem number_any (a : Option Addr) (n c : Nat) (xs : List Int) (w : World) (hR : Rd w a n c xs) (h8 : n ≤ 8) :
  Calls Tryz.prog 130 #[.slice a n c] w fun e w' => e = .returned (.int .u64 (numL xs : Nat)) ∧ w' = w := by
 have hl := hR.len
 have hcp := hR.cap
 have hmx : c ≤ 9223372036854775807 := hR.most
 have HL : Hid (numL xs = numK xs n) := by show numL xs = numK xs n; unfold numL; rw [hl]
 rw [HL.out]
 clear hl
 go_enter Tryz.func130, Tryz.ntmps130
 go_wp2
 go_loop [2, 4, 7] (fun s _ i => ∃ k : Nat, k ≤ n ∧ i = .int .i64 k ∧ s = .int .u64 (numK xs k)) (fun _ _ i => n - (intOf i).toNat)
 case atStart => exact ⟨0, by omega, rfl, rfl⟩
 case round =>
  obtain ⟨k, hk, rfl, rfl⟩ := hrel
  by_cases hlt : k < n
  ·have hlz : (k : Int) < (n : Int) := by omega
   have hk0 : (0 : Int) ≤ (k : Int) := by omega
   have hb := hR.bytes.get k
   have hlt2 := numK_lt hR.bytes k
   have hpow : 256 ^ k ≤ 72057594037927936 := by
    have : 256 ^ k ≤ 256 ^ 7 := Nat.pow_le_pow_right (by omega) (by omega)
    simpa using this
   obtain ⟨ad, rfl⟩ : ∃ ad, a = some ad := by
    cases a with
    | none => have := hR.nil rfl; omega
    | some ad => exact ⟨ad, rfl⟩
   have hc1 := hR.cells _ rfl k hlt
   obtain ⟨z, hz⟩ : ∃ z, xs.getD k 0 = z := ⟨_, rfl⟩
   have HB : Hid (numK xs (k + 1) = numK xs k * 256 + z.toNat) := by rw [← hz]; exact rfl
   rw [hz] at hb hc1
   have ho := or_beN (acc := numK xs k) hb.1 hb.2 (by omega)
   have hbk : ((numK xs k : Nat) : Int) < 72057594037927936 := by omega
   clear hz hpow hlt2
   go_wp2
   go_round
   case rel => exact ⟨k + 1, by omega, by go_num, by rw [HB.out]; congr 1; omega⟩
   case measure => simp [intOf]; omega
  ·obtain rfl : k = n := by omega
   have hlz : ¬ (k : Int) < (k : Int) := by omega
   go_wp2
   go_ret
   exact ⟨rfl, rfl⟩
theorem mk0N (w : World) (M : Nat) (hM : M ≤ 100000000) : ∃ w', (Instr.makeSlice 29 (.int .i64 0) (.int .i64 M)).run Tryz.prog w = .ok (.slice (some ⟨w.heap.size, 0, none⟩) 0 M) w' ∧ w'.ownsRow w.heap.size 5 1 (.slice (some ⟨w.heap.size, 0, none⟩) 0 M) 0 (bc []) ∧ Below w.heap.size w w' := by
 obtain ⟨i0, hi, hz0, hz1, hz2⟩ := info_parts Tryz.info5
 obtain ⟨w', h1, h2, h3⟩ := run_make_own w w.heap.size 29 5 i0 (.int .u8 0) 1 Tryz.underlying29 hi hz0 hz1 .i64 .i64 M (by rw [hz2]; omega) (by unfold maxLen; omega) (Nat.le_refl _)
 exact ⟨w', h1, h2, (Below.refl _ _).grown h3 (Nat.le_refl _) (fun k hk => by cases hk)⟩
def crcN (xs : List Int) : Nat := (more 0#32 xs).toNat
theorem crcN_lt (xs : List Int) : crcN xs < 4294967296 := (more 0#32 xs).isLt
theorem sumN_any (a : Option Addr) (n c : Nat) (xs : List Int) (w : World) (hR : Rd w a n c xs) :
  Calls Tryz.prog 137 #[.slice a n c] w fun e w' => e = .returned (.int .u32 ((crcN xs : Nat) : Int)) ∧ w' = w := sum_any a n c xs w hR
def formL (xs : List Int) : List Int := bigL 4 xs.length ++ bigL 4 (crcN xs) ++ xs
theorem formL_len (xs : List Int) : (formL xs).length = 8 + xs.length := by
 unfold formL
 rw [List.length_append, List.length_append, bigL_len, bigL_len]
set_option maxHeartbeats 1000000 in
theorem form_any (a : Option Addr) (n c : Nat) (xs : List Int) (w : World) (hR : Rd w a n c xs) (hn : n ≤ 1048576) :
  Calls Tryz.prog 101 #[.slice a n c] w fun e w' => ∃ v', e = .returned v' ∧ w'.ownsRow w.heap.size 5 1 v' (8 + n) (bc (formL xs)) ∧ Below w.heap.size w w' := by
 have hl := hR.len
 obtain ⟨w1, hmk, ho1, hb1⟩ := mk0N w (8 + n) (by omega)
 have hn8 : ((8 + n : Nat) : Int) = 8 + (n : Int) := by omega
 rw [hn8] at hmk
 have hS := fun w' (hb : Below w.heap.size w w') => sumN_any a n c xs w' (hR.carry (Nat.le_refl _) hb)
 have hlt := crcN_lt xs
 have HF : Hid (formL xs = bigL 4 n ++ bigL 4 (crcN xs) ++ xs) := by show formL xs = _; unfold formL; rw [hl]
 rw [HF.out]
 obtain ⟨S, HS⟩ : ∃ S, Hid (crcN xs = S) := ⟨_, rfl⟩
 rw [HS.out] at hlt ⊢
 simp only [HS.out] at hS
 have hz1 : (n : Int) ≤ 1048576 := by omega
 have hz2 : (S : Int) < 4294967296 := by omega
 have tk : True := trivial
 clear hn8 hl HF
 go_enter Tryz.func101, Tryz.ntmps101
 go_wp2_with (first
  | (clear tk; go_at_call 136; refine (put4_any w.heap.size _ 0 [] n (by omega) w1 hb1.size ho1).mono ?_; rintro e w2 ⟨v2, rfl, o2, b2⟩; have hb2 := hb1.trans b2; rw [Nat.zero_add, List.nil_append] at o2)
  | (go_at_call 137; refine (hS w2 hb2).mono ?_; rintro e w3 ⟨rfl, h3⟩; replace h3 := h3.symm; subst h3)
  | (go_at_call 136; refine (put4_any w.heap.size v2 4 (bigL 4 n) S (by omega) w2 hb2.size o2).mono ?_; rintro e w4 ⟨v4, rfl, o4, b4⟩; have hb4 := hb2.trans b4)
  | (at_builtin; refine wp_appK rfl _ _ rfl w.heap.size v4 (4 + 4) (bigL 4 n ++ bigL 4 S) rfl o4 a n c xs rfl (hR.carry (Nat.le_refl _) hb4) (by omega) hb4.size ?_; intro v5 w5 o5 g5 _))
 go_ret
 have hb5 := hb4.grown g5 hb4.size (fun k hk => (o4.lt k hk).1)
 first
  | exact ⟨_, rfl, o5, hb5⟩
  | exact ⟨o5, hb5⟩ | exact ⟨_, o5, hb5⟩ | trace_state
def baseL (g : Nat) : List Int := bigL 8 g ++ bigL 4 (crcN (bigL 8 g))
theorem baseL_len (g : Nat) : (baseL g).length = 12 := by unfold baseL; rw [List.length_append, bigL_len, bigL_len]
set_option maxHeartbeats 1000000 in
theorem baseForm_any (g : Nat) (w : World) :
  Calls Tryz.prog 114 #[.int .u64 (g : Int)] w fun e w' => ∃ v', e = .returned v' ∧ w'.ownsRow w.heap.size 5 1 v' 12 (bc (baseL g)) ∧ Below w.heap.size w w' := by
 have h0 : w.ownsRow w.heap.size 5 1 (.slice none 0 0) 0 (bc []) := ⟨rfl, .inl ⟨rfl, rfl⟩⟩
 have hlt := crcN_lt (bigL 8 g)
 have HF : Hid (baseL g = bigL 8 g ++ bigL 4 (crcN (bigL 8 g))) := rfl
 rw [HF.out]
 have hS := fun a n c w' (h : Rd w' a n c (bigL 8 g)) => sumN_any a n c (bigL 8 g) w' h
 obtain ⟨S, HS⟩ : ∃ S, Hid (crcN (bigL 8 g) = S) := ⟨_, rfl⟩
 rw [HS.out] at hlt ⊢
 simp only [HS.out] at hS
 have hz2 : (S : Int) < 4294967296 := by omega
 have tk : True := trivial
 clear HF
 go_enter Tryz.func114, Tryz.ntmps114
 go_wp2_with (first
  | (clear tk; go_at_call 136; refine (put8_any w.heap.size _ 0 [] g (by omega) w (Nat.le_refl _) h0).mono ?_; rintro e w2 ⟨v2, rfl, o2, b2⟩; rw [Nat.zero_add, List.nil_append] at o2; obtain ⟨a2, c2, rfl, r2⟩ := Rd.ofOwn o2 (bigL_bd 8 g); skip)
  | (go_at_call 137; refine (hS a2 _ c2 w2 r2).mono ?_; rintro e w3 ⟨rfl, h3⟩; replace h3 := h3.symm; subst h3)
  | (go_at_call 136; refine (put4_any w.heap.size _ 8 (bigL 8 g) S (by omega) w2 b2.size o2).mono ?_; rintro e w4 ⟨v4, rfl, o4, b4⟩))
 go_ret
 first
  | exact ⟨_, rfl, o4, b2.trans b4⟩
  | exact ⟨o4, b2.trans b4⟩ | exact ⟨_, o4, b2.trans b4⟩ | trace_state
def recO (xs : List Int) : Option (List Int) :=
 if xs.length < 8 then none
 else if numL (xs.take 4) > 1048576 ∨ numL (xs.take 4) > xs.length - 8 then none
 else if crcN ((xs.drop 8).take (numL (xs.take 4))) = numL ((xs.drop 4).take 4) then some ((xs.drop 8).take (numL (xs.take 4)))
 else none
theorem numL_lt4 {xs : List Int} (hb : Bd xs) (h : xs.length ≤ 4) : numL xs < 4294967296 := by
 have h1 := numK_lt hb xs.length
 have h2 : 256 ^ xs.length ≤ 256 ^ 4 := Nat.pow_le_pow_right (by omega) h
 have h3 : (256 : Nat) ^ 4 = 4294967296 := by decide
 unfold numL
 omega
theorem Rd.dropN {w : World} {b off n c : Nat} {xs : List Int} (h : Rd w (some ⟨b, off, none⟩) n c xs) {k : Nat} (hk : k ≤ n) : Rd w (some ⟨b, off + k, none⟩) (n - k) (c - k) (xs.drop k) := by
 have hl := h.len
 have hc := h.cap
 have hm := h.most
 refine ⟨by rw [List.length_drop]; omega, by omega, by omega, (fun e => by cases e), fun x hx => h.bytes x (List.mem_of_mem_drop hx), fun ad had j hj => ?_⟩
 cases had
 have h1 := h.cells _ rfl (k + j) (by omega)
 rw [add_flat] at h1 ⊢
 rw [← Nat.add_assoc] at h1
 rw [h1]
 simp [List.getD, List.getElem?_drop]
end Go.Proofs.YtikkieaokfailaaGreatDoor

namespace Go.Proofs.YtikkieaokfailaaGreatDoor
open Go.RowKit Go.Joins
theorem Rd.take4 {w : World} {a : Option Addr} {n c : Nat} {xs : List Int} (h : Rd w a n c xs) {k : Nat} (hk : k ≤ n) : Rd w a k c (xs.take k) := h.takeK hk
theorem recO_small {xs : List Int} (h : xs.length < 8) : recO xs = none := by unfold recO; rw [if_pos h]
theorem recO_big {xs : List Int} (h : ¬ xs.length < 8) (h2 : numL (xs.take 4) > 1048576 ∨ numL (xs.take 4) > xs.length - 8) : recO xs = none := by unfold recO; rw [if_neg h, if_pos h2]
theorem recO_sum {xs : List Int} (h : ¬ xs.length < 8) (h2 : ¬ (numL (xs.take 4) > 1048576 ∨ numL (xs.take 4) > xs.length - 8)) : recO xs = if crcN ((xs.drop 8).take (numL (xs.take 4))) = numL ((xs.drop 4).take 4) then some ((xs.drop 8).take (numL (xs.take 4))) else none := by unfold recO; rw [if_neg h, if_neg h2]
theorem behind8 (b off n c : Nat) (hn : 8 ≤ n) (hc : n ≤ c) (hc2 : c ≤ 9223372036854775807) : ∃ o8, (∀ W, (Instr.sliceAt 29 (.slice (some ⟨b, off, none⟩) n c) (some (.int .i64 8)) none none).run Tryz.prog W = .ok (.slice (some ⟨b, o8, none⟩) (n - 8) (c - 8)) W) ∧ (∀ (w : World) (xs : List Int), Rd w (some ⟨b, off, none⟩) n c xs → Rd w (some ⟨b, o8, none⟩) (n - 8) (c - 8) (xs.drop 8)) := by
 have h1 : (8 : Int) ≤ (n : Int) := by omega
 have h2 : (n : Int) ≤ (c : Int) := by omega
 by_cases h8 : c = 8
 ·subst h8
  obtain rfl : n = 8 := by omega
  refine ⟨off, fun W => ?_, fun w xs h => ?_⟩
  ·go_simp
  ·have hl := h.len
   rw [List.drop_eq_nil_of_le (by omega)]
   exact ⟨rfl, Nat.le_refl _, by unfold maxLen; omega, (fun e => by cases e), Bd.nil, fun _ _ j hj => by omega⟩
 ·refine ⟨off + 8, fun W => ?_, fun w xs h => h.dropN hn⟩
  have h3 : ¬ (8 : Int) = (c : Int) := by omega
  have h4 : ¬ (c : Int) = 8 := by omega
  have h5 : ¬ (8 : Nat) = c := by omega
  go_simp
def Rec1 (w : World) (xs : List Int) (e : Ending) : Prop := match recO xs with
 | none => ∃ v, e = .returned (.tuple #[v, .bool false])
 | some r => ∃ a' c', e = .returned (.tuple #[.slice a' r.length c', .bool true]) ∧ Rd w a' r.length c' r
set_option maxHeartbeats 2000000 in
theorem record_any (b off n c : Nat) (xs : List Int) (w : World) (hR : Rd w (some ⟨b, off, none⟩) n c xs) (hn9 : n ≤ 1000000000) :
  Calls Tryz.prog 154 #[.slice (some ⟨b, off, none⟩) n c] w fun e w' => Rec1 w xs e ∧ Below w.heap.size w w' := by
 have hl := hR.len
 have hcp := hR.cap
 have hmx : c ≤ 9223372036854775807 := hR.most
 by_cases h8 : n < 8
 ·have hE : recO xs = none := recO_small (by omega)
  have HR : ∀ e, Rec1 w xs e = ∃ v, e = .returned (.tuple #[v, .bool false]) := fun e => by unfold Rec1; rw [hE]
  simp only [HR]
  have hz : (n : Int) < 8 := by omega
  clear HR hE hl
  go_enter Tryz.func154, Tryz.ntmps154
  go_wp2
  go_ret2
  exact ⟨⟨_, rfl⟩, Below.refl _ _⟩
 ·have hz : ¬ (n : Int) < 8 := by omega
  have hz4 : (4 : Int) ≤ (c : Int) := by omega
  have hz8 : (8 : Int) ≤ (c : Int) := by omega
  have hzn : (8 : Int) ≤ (n : Int) := by omega
  have hc4 : ¬ c = 4 := by omega
  have hnc : (n : Int) ≤ (c : Int) := by omega
  obtain ⟨o8, hsl, hrd8⟩ := behind8 b off n c (by omega) hcp hmx
  have hr1 : Rd w (some ⟨b, off, none⟩) 4 c (xs.take 4) := hR.take4 (by omega)
  have hr2 : Rd w (some ⟨b, off + 4, none⟩) 4 (c - 4) ((xs.drop 4).take 4) := (hR.dropN (k := 4) (by omega)).take4 (by omega)
  have hr3 := hrd8 w xs hR
  have hK := numL_lt4 hr1.bytes (by rw [hr1.len]; omega)
  have hS4 := numL_lt4 hr2.bytes (by rw [hr2.len]; omega)
  have hn1 := fun w' (hb : Below w.heap.size w w') => number_any _ 4 c (xs.take 4) w' (hr1.carry (Nat.le_refl _) hb) (by omega)
  have hn2 := fun w' (hb : Below w.heap.size w w') => number_any _ 4 (c - 4) ((xs.drop 4).take 4) w' (hr2.carry (Nat.le_refl _) hb) (by omega)
  have hbig : numL (xs.take 4) > 1048576 ∨ numL (xs.take 4) > xs.length - 8 → recO xs = none := fun h => recO_big (by omega) h
  have hsum := fun h => recO_sum (xs := xs) (by omega) h
  rw [hl] at hbig hsum
  obtain ⟨K, HK⟩ : ∃ K, Hid (numL (xs.take 4) = K) := ⟨_, rfl⟩
  obtain ⟨S, HS⟩ : ∃ S, Hid (numL ((xs.drop 4).take 4) = S) := ⟨_, rfl⟩
  simp only [HK.out] at hK hn1 hbig hsum
  simp only [HS.out] at hS4 hn2 hsum
  clear hrd8 hr1 hr2
  have HW : Below w.heap.size w w.drew := (Below.refl _ _).drew
  by_cases hbg : K > 1048576 ∨ K > n - 8
  ·have hE := hbig hbg
   have HR : ∀ e, Rec1 w xs e = ∃ v, e = .returned (.tuple #[v, .bool false]) := fun e => by unfold Rec1; rw [hE]
   simp only [HR]
   clear HR hE hbig hsum hl
   go_enter Tryz.func154, Tryz.ntmps154
   go_upto_region 3 with fail
   refine wp_region_lx (fun w' => w' = w.drew) [] 11 (by kernel_rfl) (by kernel_rfl) ?_
   have HSx : w.drew = w.drew := rfl
   refine lx_r 0 _ HSx ?_; simp only [lxa, lxb, lxc]
   refine lx_r 1 (.slice (some ⟨b, off, none⟩) 4 c) HSx ?_; simp only [lxa, lxb, lxc]
   refine lx_r 3 _ HSx ?_; simp only [lxa, lxb, lxc]
   refine lx_r 4 (.slice (some ⟨b, off + 4, none⟩) 4 (c - 4)) HSx ?_; simp only [lxa, lxb, lxc]
   refine lx_r 6 _ HSx ?_; simp only [lxa, lxb, lxc]
   refine lx_r 7 (.slice (some ⟨b, o8, none⟩) (n - 8) (c - 8)) HSx ?_; simp only [lxa, lxb, lxc]
   refine lx_one 2 (by kernel_rfl) (stepT_call 130 ?a2x1 rfl rfl rfl ?r2x1 ?_)
   case r2x1 => first | (go_simp; rfl) | go_simp
   refine (hn1 _ HW).mono ?_
   rintro e w1 ⟨rfl, h1w⟩
   replace h1w := h1w.symm
   subst h1w
   refine ⟨_, rfl, fun _ => rfl, ?_⟩
   simp only [lxa, lxb, lxc]
   refine lx_one 5 (by kernel_rfl) (stepT_call 130 ?a5x1 rfl rfl rfl ?r5x1 ?_)
   case r5x1 => first | (go_simp; rfl) | go_simp
   refine (hn2 _ HW).mono ?_
   rintro e w1 ⟨rfl, h1w⟩
   replace h1w := h1w.symm
   subst h1w
   refine ⟨_, rfl, fun _ => rfl, ?_⟩
   simp only [lxa, lxb, lxc]
   refine lx_r 8 _ HSx ?_; simp only [lxa, lxb, lxc]
   refine lx_r 9 _ HSx ?_; simp only [lxa, lxb, lxc]
   refine lx_r 10 _ HSx ?_; simp only [lxa, lxb, lxc]
   refine lx_nil (by kernel_rfl) ?_
   have hi1 : ((n - 8 : Nat) : Int) = (n : Int) - 8 := by omega
   by_cases h1 : (1048576 : Int) < (K : Int)
   ·go_wp2
    go_ret2
    exact ⟨⟨_, rfl⟩, HW⟩
   ·have h2 : ((n - 8 : Nat) : Int) < (K : Int) := by omega
    have h2' : (n : Int) - 8 < (K : Int) := by omega
    go_wp2
    go_ret2
    exact ⟨⟨_, rfl⟩, HW⟩
  ·have hE := hsum hbg
   have h1 : ¬ (1048576 : Int) < (K : Int) := by omega
   have h2 : ¬ ((n - 8 : Nat) : Int) < (K : Int) := by omega
   have hi1 : ((n - 8 : Nat) : Int) = (n : Int) - 8 := by omega
   have h2' : ¬ (n : Int) - 8 < (K : Int) := by omega
   have hKn : K ≤ n - 8 := by omega
   have hr4 := hr3.take4 hKn
   have hSm := fun w' (hb : Below w.heap.size w w') => sumN_any _ K (c - 8) ((xs.drop 8).take K) w' (hr4.carry (Nat.le_refl _) hb)
   have hCl := crcN_lt ((xs.drop 8).take K)
   obtain ⟨T, HT⟩ : ∃ T, Hid ((xs.drop 8).take K = T) := ⟨_, rfl⟩
   rw [HT.out] at hr4 hE hCl
   simp only [HT.out] at hSm
   obtain ⟨C, HC⟩ : ∃ C, Hid (crcN T = C) := ⟨_, rfl⟩
   rw [HC.out] at hE hCl
   simp only [HC.out] at hSm
   have hCz : (C : Int) < 4294967296 := by omega
   have hKc : (K : Int) ≤ ((c - 8 : Nat) : Int) := by omega
   have hKc2 : (K : Int) ≤ (c : Int) - 8 := by omega
   have hTl : T.length = K := hr4.len
   have HR : ∀ e, Rec1 w xs e = match (if C = S then some T else none) with
     | none => ∃ v, e = .returned (.tuple #[v, .bool false])
     | some r => ∃ a' c', e = .returned (.tuple #[.slice a' r.length c', .bool true]) ∧ Rd w a' r.length c' r := fun e => by unfold Rec1; rw [hE]
   simp only [HR]
   clear HR hE hbig hsum hbg hl
   have Hr4 : Hid (Rd w (some ⟨b, o8, none⟩) K (c - 8) T) := hr4
   clear hr4
   by_cases hCS : C = S
   ·subst hCS
    rw [if_pos rfl]
    go_enter Tryz.func154, Tryz.ntmps154
    go_upto_region 3 with fail
    refine wp_region_lx (fun w' => w' = w.drew) [] 11 (by kernel_rfl) (by kernel_rfl) ?_
    have HSx : w.drew = w.drew := rfl
    refine lx_r 0 _ HSx ?_; simp only [lxa, lxb, lxc]
    refine lx_r 1 (.slice (some ⟨b, off, none⟩) 4 c) HSx ?_; simp only [lxa, lxb, lxc]
    refine lx_r 3 _ HSx ?_; simp only [lxa, lxb, lxc]
    refine lx_r 4 (.slice (some ⟨b, off + 4, none⟩) 4 (c - 4)) HSx ?_; simp only [lxa, lxb, lxc]
    refine lx_r 6 _ HSx ?_; simp only [lxa, lxb, lxc]
    refine lx_r 7 (.slice (some ⟨b, o8, none⟩) (n - 8) (c - 8)) HSx ?_; simp only [lxa, lxb, lxc]
    refine lx_one 2 (by kernel_rfl) (stepT_call 130 ?a2x2 rfl rfl rfl ?r2x2 ?_)
    case r2x2 => first | (go_simp; rfl) | go_simp
    refine (hn1 _ HW).mono ?_
    rintro e w1 ⟨rfl, h1w⟩
    replace h1w := h1w.symm
    subst h1w
    refine ⟨_, rfl, fun _ => rfl, ?_⟩
    simp only [lxa, lxb, lxc]
    refine lx_one 5 (by kernel_rfl) (stepT_call 130 ?a5x2 rfl rfl rfl ?r5x2 ?_)
    case r5x2 => first | (go_simp; rfl) | go_simp
    refine (hn2 _ HW).mono ?_
    rintro e w1 ⟨rfl, h1w⟩
    replace h1w := h1w.symm
    subst h1w
    refine ⟨_, rfl, fun _ => rfl, ?_⟩
    simp only [lxa, lxb, lxc]
    refine lx_r 8 _ HSx ?_; simp only [lxa, lxb, lxc]
    refine lx_r 9 _ HSx ?_; simp only [lxa, lxb, lxc]
    refine lx_r 10 _ HSx ?_; simp only [lxa, lxb, lxc]
    refine lx_nil (by kernel_rfl) ?_
    go_wp2_with (go_at_call 137; refine (hSm _ HW).mono ?_; rintro e w3 ⟨rfl, h3⟩; replace h3 := h3.symm; subst h3)
    go_ret2
    refine ⟨⟨some ⟨b, o8, none⟩, c - 8, ?_, ?_⟩, HW⟩
    ·rw [hTl]; rfl
    ·rw [hTl]; exact Hr4.out
   ·rw [if_neg hCS]
    have hne : ((C : Int) == (S : Int)) = false := by rw [beq_eq_false_iff_ne]; omega
    go_enter Tryz.func154, Tryz.ntmps154
    go_upto_region 3 with fail
    refine wp_region_lx (fun w' => w' = w.drew) [] 11 (by kernel_rfl) (by kernel_rfl) ?_
    have HSx : w.drew = w.drew := rfl
    refine lx_r 0 _ HSx ?_; simp only [lxa, lxb, lxc]
    refine lx_r 1 (.slice (some ⟨b, off, none⟩) 4 c) HSx ?_; simp only [lxa, lxb, lxc]
    refine lx_r 3 _ HSx ?_; simp only [lxa, lxb, lxc]
    refine lx_r 4 (.slice (some ⟨b, off + 4, none⟩) 4 (c - 4)) HSx ?_; simp only [lxa, lxb, lxc]
    refine lx_r 6 _ HSx ?_; simp only [lxa, lxb, lxc]
    refine lx_r 7 (.slice (some ⟨b, o8, none⟩) (n - 8) (c - 8)) HSx ?_; simp only [lxa, lxb, lxc]
    refine lx_one 2 (by kernel_rfl) (stepT_call 130 ?a2x3 rfl rfl rfl ?r2x3 ?_)
    case r2x3 => first | (go_simp; rfl) | go_simp
    refine (hn1 _ HW).mono ?_
    rintro e w1 ⟨rfl, h1w⟩
    replace h1w := h1w.symm
    subst h1w
    refine ⟨_, rfl, fun _ => rfl, ?_⟩
    simp only [lxa, lxb, lxc]
    refine lx_one 5 (by kernel_rfl) (stepT_call 130 ?a5x3 rfl rfl rfl ?r5x3 ?_)
    case r5x3 => first | (go_simp; rfl) | go_simp
    refine (hn2 _ HW).mono ?_
    rintro e w1 ⟨rfl, h1w⟩
    replace h1w := h1w.symm
    subst h1w
    refine ⟨_, rfl, fun _ => rfl, ?_⟩
    simp only [lxa, lxb, lxc]
    refine lx_r 8 _ HSx ?_; simp only [lxa, lxb, lxc]
    refine lx_r 9 _ HSx ?_; simp only [lxa, lxb, lxc]
    refine lx_r 10 _ HSx ?_; simp only [lxa, lxb, lxc]
    refine lx_nil (by kernel_rfl) ?_
    go_wp2_with (go_at_call 137; refine (hSm _ HW).mono ?_; rintro e w3 ⟨rfl, h3⟩; replace h3 := h3.symm; subst h3)
    go_ret2
    exact ⟨⟨_, rfl⟩, HW⟩
end Go.Proofs.YtikkieaokfailaaGreatDoor

namespace Go.Proofs.YtikkieaokfailaaGreatDoor
open Go.RowKit Go.Joins
theorem put_mid {dn post : Fls} {n : Nm} {f g : Fle} (hr : Rise (dn ++ (n, f) :: post)) : putL (dn ++ (n, f) :: post) n g = dn ++ (n, g) :: post := by
 induction dn with
 | nil =>
  show putL ((n, f) :: post) n g = _
  unfold putL
  rw [if_neg (ltN_irrefl n), if_pos rfl]
  rfl
 | cons q r ih =>
  obtain ⟨a, x⟩ := q
  show putL ((a, x) :: (r ++ (n, f) :: post)) n g = (a, x) :: (r ++ (n, g) :: post)
  have h1 : ltN a n := hr.1 (n, f) (List.mem_append_right _ (List.mem_cons_self ..))
  unfold putL
  rw [if_neg (fun h => ltN_irrefl _ (ltN_trans h h1)), if_neg (fun e => by subst e; exact ltN_irrefl _ h1), ih hr.2]
theorem look_mid {dn post : Fls} {n : Nm} {f : Fle} (hr : Rise (dn ++ (n, f) :: post)) : look (dn ++ (n, f) :: post) n = some f := look_of_mem hr (List.mem_append_right _ (List.mem_cons_self ..))
def IRd (w : World) (b : Nat) (v : Value) (zs : List Int) : Prop :=
 ∃ (a : Option Addr) (c : Nat), v = .slice a zs.length c ∧ zs.length ≤ c ∧ c ≤ 9223372036854775807 ∧ (zs ≠ [] → ∃ off, a = some ⟨b, off, none⟩ ∧ ∀ j, j < zs.length → w.cell? ⟨b, off + j, none⟩ = some (.int .i64 (zs.getD j 0)))
theorem IRd.keep {S : Nat → Prop} {w w' : World} {b : Nat} {v : Value} {zs : List Int} (h : IRd w b v zs) (hk : Keep S w w') (hs : zs ≠ [] → ¬ S b) : IRd w' b v zs := by
 obtain ⟨a, c, h1, h2, h3, h4⟩ := h
 refine ⟨a, c, h1, h2, h3, fun hz => ?_⟩
 obtain ⟨off, e, hc⟩ := h4 hz
 exact ⟨off, e, fun j hj => hk.cell (hc j hj) (hs hz)⟩
theorem rest_nil (f : Fle) (hf : f.safe ≤ f.b.length) : restF f 0 = ⟨f.b.take (f.safe + 0), f.safe + 0⟩ ∧ f.safe + 0 ≤ f.b.length := by
 refine ⟨?_, hf⟩
 unfold restF
 have : (max (0 : Int) 0 % (((f.b.length - f.safe : Nat) : Int) + 1)).toNat = 0 := by
  rw [Int.max_self, Int.zero_emod]; rfl
 rw [this]
theorem restL_len (l : Fls) (keep : List Int) : (restL l keep).length = l.length := by
 induction l generalizing keep with
 | nil => rfl
 | cons q r ih =>
  obtain ⟨n, f⟩ := q
  unfold restL
  split <;> simp [ih]
theorem used_app (a b : Fls) : used (a ++ b) = used a + used b := by
 induction a with
 | nil => simp [used]
 | cons q r ih =>
  obtain ⟨n, f⟩ := q
  show f.b.length + used (r ++ b) = f.b.length + used r + used b
  rw [ih]; omega
theorem max_int (x y : Int) (ty : TypeId) (w : World) : (Builtin.max_ #[3, 3] ty #[.int .i64 x, .int .i64 y]).run Tryz.prog w = .ok (.int .i64 (max x y)) w := by
 rw [run_max_int2]
 congr 2
 split <;> omega
set_option maxRecDepth 100000 in
set_option maxHeartbeats 3000000 in
theorem restart_any (d : Nat) (F : Nat → Prop) (k : Dk) (bk : Nat) (v : Value) (keep : List Int) (hfl : k.fs.length < 1000000) (w : World) (hDk : DiskAt w F d k) (hI : IRd w bk v keep) (hbk : keep ≠ [] → ¬ F bk) :
  Calls Tryz.prog 24 #[.pointer (some ⟨d, 0, none⟩), v] w fun e w' => e = .returned (.tuple #[]) ∧ Dp w F d (restK k keep) w' := by
 have hrise : Calls Tryz.prog 69 #[.pointer (some ⟨d, 0, none⟩)] w fun e w' => ∃ v, e = .returned v ∧ w'.ownsRow w.heap.size 9 1 v k.fs.length (nv (k.fs.map Prod.fst)) ∧ Below w.heap.size w w' := by
  obtain ⟨⟨bm, m, hD, hbm, ht, ha⟩, fd, lt, hg⟩ := hDk
  exact rising_any d bm _ _ m k.fs hg.rise (fun s => (ht s).isSome) (by omega) w hD
 have hlt := hDk.lt
 have hbkl : keep ≠ [] → bk < w.heap.size := fun h => by
  obtain ⟨a, c, _, _, _, h4⟩ := hI
  obtain ⟨off, _, hc⟩ := h4 h
  exact World.block_lt_of_cell? w _ (hc 0 (List.length_pos_iff.2 h))
 obtain ⟨N, HN⟩ : ∃ N, Hid (k.fs.length = N) := ⟨_, rfl⟩
 obtain ⟨R, HRe⟩ : ∃ R, Hid (restL k.fs keep = R) := ⟨_, rfl⟩
 have hN9 : N < 1000000 := by rw [← HN.out]; exact hfl
 have hRK : restK k keep = { k with fs := R, off := false, fu := none } := by unfold restK; rw [HRe.out]
 rw [hRK]
 rw [HN.out] at hrise
 have hroom := hDk.good.room
 go_enter Tryz.func24, Tryz.ntmps24
 go_wp2_with (first
  | (go_at_call 69; refine hrise.mono ?_; rintro e w1 ⟨vn, rfl, hrow, hb1⟩; obtain ⟨an, cn, rfl, hobn⟩ := own_formS hrow))
 have hD1 := hDk.below hb1
 have hI1 : IRd w1 bk v keep := hI.keep (S := fun _ => False) (Keep.ofBelow hb1) (fun _ h => h)
 clear hrise hDk hI hRK
 obtain ⟨An, hAn⟩ : ∃ A : Option Addr, (an.map fun g => (⟨g, 0, none⟩ : Addr)) = A := ⟨_, rfl⟩
 rw [hAn]
 go_loopw [1, 5, 6, 7, 8, 12] (fun s1 _ _ _ _ s12 wr => ∃ (i : Nat) (dn rest : Fls) (kp : List Int), s12 = .int .i64 i ∧ dn.length = i ∧ IRd wr bk s1 kp ∧ Hid (kp ≠ [] → keep ≠ []) ∧ Hid (dn ++ restL rest kp = R) ∧ Hid ((dn ++ rest).map Prod.fst = k.fs.map Prod.fst) ∧ Dp w1 F d { k with fs := dn ++ rest } wr) (fun _ _ _ _ _ s12 _ => N - (intOf s12).toNat)
 case atStart => exact ⟨0, [], k.fs, keep, rfl, rfl, hI1, fun h => h, HRe.out, rfl, Dp.refl hD1⟩
 case round =>
  obtain ⟨i, dn, rest, kp, rfl, hdn, HI, HKp, HR, HNm, HDp⟩ := hrel
  obtain ⟨Fi, hDi, hki, hFi⟩ := HDp
  have hlenN : dn.length + rest.length = N := by
   have h := congrArg List.length HNm.out
   simp only [List.length_map, List.length_append] at h
   rw [h]; exact HN.out
  cases rest with
  | nil =>
   simp only [List.length_nil] at hlenN
   obtain rfl : i = N := by omega
   have hcl : ¬ (i : Int) < (i : Int) := by omega
   have hRR : dn = R := by have h := HR.out; simpa [restL] using h
   rw [List.append_nil] at hDi
   obtain ⟨⟨bm, m, hD, hbm, ht, ha⟩, fd, lt, hg⟩ := hDi
   have p4 := hD.c4
   have z4 := hD.fz 4
   have hE1 := hD.set 4 (.bool false) { rawK { k with fs := dn } with down := false } rfl
   have p5 := hE1.c5
   have z5 := hE1.fz 5
   have hE2 := hE1.set 5 (.bool false) { rawK { k with fs := dn } with down := false, fused := false } rfl
   have p6 := hE2.c6
   have z6 := hE2.fz 6
   have hE3 := hE2.set 6 (.int .i64 0) { rawK { k with fs := dn } with down := false, fused := false, left := 0 } rfl
   have hkE := ((hD.setK 4 (.bool false)).trans (hE1.setK 5 (.bool false))).trans (hE2.setK 6 (.int .i64 0))
   clear HI HNm hI1 hD1
   go_wp2
   go_end0
   obtain ⟨x1, _, x3⟩ := DiskAt.cells (k := { k with fs := dn }) (k1 := { k with fs := dn, off := false, fu := none }) hbm ht ha fd lt hD.blk hkE hE3 rfl ⟨hg.room, hg.rise, hg.used, hg.each, fun j e => by cases e⟩
   refine ⟨rfl, ?_⟩
   rw [← hRR]
   exact Dp.from hb1 (Dp.next hki hFi ⟨Fi, x1, x3, fun _ h => Or.inl h⟩)
  | cons q post =>
   obtain ⟨n, f⟩ := q
   simp only [List.length_cons] at hlenN
   have hcl : (i : Int) < (N : Int) := by omega
   have hfl' : (dn ++ (n, f) :: post).length < 1000000 := by simp; omega
   obtain ⟨⟨bm, m, hD, hbm, ht, ha⟩, fd, lt, hg⟩ := hDi
   have p1 := hD.c1
   have hlkm := look_mid (f := f) hg.rise
   obtain ⟨hnm, hsf, hbd⟩ := look_good hg hlkm
   have hmax : n.size ≤ maxLen := by have := isNm_size hnm; unfold maxLen; omega
   have hn64 := isNm_size hnm
   have hfu : f.b.length ≤ 16777216 := by
    have h1 := lenO_used (dn ++ (n, f) :: post) n
    rw [hlkm] at h1
    have h2 := hg.used
    have h3 := hg.room
    have h4 : lenO (some f) = f.b.length := rfl
    rw [h4] at h1
    simp only at h2 h3
    omega
   have huse : used (dn ++ (n, f) :: post) ≤ 16777216 := Nat.le_trans hg.used hg.room
   have htie := ht n
   simp only at htie
   rw [hlkm] at htie
   obtain ⟨⟨a, ln, cp, sf⟩, hm0, h1, h2, hown, hFr⟩ := htie.some'
   dsimp only at h1 h2
   subst h1
   obtain ⟨A, hA⟩ : ∃ A : Option Addr, (a.map fun g => (⟨g, 0, none⟩ : Addr)) = A := ⟨_, rfl⟩
   have hslv : slv (a, ln, cp, (f.safe : Int)) = .slice A ln cp := by unfold slv; rw [hA]
   have hfo : fv ((m n).getD fv0) = .agg #[.slice A ln cp, .int .i64 (f.safe : Int)] := by rw [hm0]; show fv (a, ln, cp, (f.safe : Int)) = _; unfold fv; rw [hslv]
   rw [hslv] at hown
   have HLN : Hid (f.b.length = ln) := h2.symm
   rw [← h2] at hown hsf hfu
   have hRr : Rd wr A ln cp f.b := Rd.ofRow hown hbd
   have hm : Hid (m n = some (a, ln, cp, (f.safe : Int))) := hm0
   clear htie hm0 h2 hslv hown hA hlkm
   obtain ⟨gn, hgn, hnc⟩ : ∃ gn, an = some gn ∧ wr.cell? ⟨gn, i, none⟩ = some (.string n) := by
    cases an with
    | none =>
     rcases hrow.2 with ⟨_, h0⟩ | ⟨g, cap, cur, h1, _⟩
     ·omega
     ·cases h1
    | some gn =>
     refine ⟨gn, rfl, ?_⟩
     have hix : (nv (k.fs.map Prod.fst))[i]? = some (.string n) := by
      unfold nv
      rw [← HNm.out, List.getElem?_map, List.map_append, List.getElem?_append_right (by simp; omega)]
      simp [hdn]
     have hc := hrow.cells (g := gn) rfl i _ hix
     rw [add_flat, Nat.zero_add] at hc
     have hb := (hrow.lt gn rfl).1
     exact hki.cell hc (fun h => by have := hlt _ h; simp only at this; omega)
   have e1 : An = some ⟨gn, 0, none⟩ := by rw [← hAn, hgn]; rfl
   subst e1
   by_cases hq : f.b.length = f.safe
   ·have hls : (ln : Int) - (f.safe : Int) = 0 := by have := HLN.out; omega
    have hwl : IntKind.i64.wrap ((ln : Int) - (f.safe : Int)) = 0 := by rw [hls]; rfl
    have hlnE : ln = f.safe := by rw [← HLN.out]; exact hq
    have hlen1 := fun w => len_slice A ln cp 29 3 w Tryz.underlying29
    have HIi := HI
    clear hI1 hD1 HI
    subst hlnE
    go_wp2_with (first
     | (at_lookup; refine wp_look1 rfl _ _ rfl bm _ m rfl hD.map n hmax rfl _ _ hfo ?_))
    have hbe : Below wr.heap.size wr (wr.alloc (.cells #[.slice A f.safe cp, .int .i64 (f.safe : Int)] 106)) := (Below.refl _ _).alloc (Nat.le_refl _) _
    refine ⟨⟨i + 1, dn ++ [(n, f)], post, kp, by go_num, by simp [hdn], HIi.keep (S := fun _ => False) (Keep.ofBelow hbe) (fun _ h => h), HKp.out, ?_, ?_, ?_⟩, ?_⟩
    ·show (dn ++ [(n, f)]) ++ restL post kp = _
     rw [← HR.out, List.append_assoc]
     conv => rhs; unfold restL
     rw [if_pos hq]
     rfl
    ·show List.map Prod.fst _ = _
     rw [← HNm.out]; simp
    ·rw [List.append_assoc]
     refine Dp.next hki hFi (Dp.ofBelow ?_ hbe)
     exact ⟨⟨bm, m, hD, hbm, ht, ha⟩, fd, lt, hg⟩
    ·simp [intOf]; omega
   ·have hne : ¬ f.b.length = f.safe := hq
    have hls : f.safe < ln := by rw [HLN.out] at hq; omega
    have hwl : IntKind.i64.wrap ((ln : Int) - (f.safe : Int)) = (ln : Int) - (f.safe : Int) := by rw [IntKind.wrap_i64]; omega
    have hz0 : ((ln : Int) - (f.safe : Int) == 0) = false := by simp; omega
    have hlen1 := fun w => len_slice A ln cp 29 3 w Tryz.underlying29
    clear hI1 hD1 hq
    cases kp with
    | nil =>
     obtain ⟨ka, kc, rfl, HI2, HI3, _⟩ := HI
     go_upto_region 10 with (first
      | (at_lookup; refine wp_look1 rfl _ _ rfl bm _ m rfl hD.map n hmax rfl _ _ hfo ?_))
     have hbe : Below wr.heap.size wr (wr.alloc (.cells #[.slice A ln cp, .int .i64 (f.safe : Int)] 106)) := (Below.refl _ _).alloc (Nat.le_refl _) _
     have hfil := alloc_at wr (.cells #[.slice A ln cp, .int .i64 (f.safe : Int)] 106)
     obtain ⟨bf, hbf⟩ : ∃ bf, wr.heap.size = bf := ⟨_, rfl⟩
     rw [hbf] at hfil ⊢
     generalize wr.alloc (.cells #[.slice A ln cp, .int .i64 (f.safe : Int)] 106) = Z at *
     have f0 := cell_of_block hfil 0
     have f1 := cell_of_block hfil 1
     simp at f0 f1
     have hRZ : Rd Z A ln cp f.b := hRr.carry (Nat.le_refl _) hbe
     have hcut := fcut_any A ln cp f.b f.safe (f.safe + 0) Z hRZ (by omega) (by omega)
     have hmn : min f.safe (f.safe + 0) = f.safe := by omega
     rw [hmn] at hcut
     clear hmn
     obtain ⟨lk, HLK⟩ : ∃ lk, Hid (f.safe + 0 = lk) := ⟨_, rfl⟩
     have hwr : (f.safe : Int) + 0 = (lk : Int) := by have := HLK.out; omega
     rw [HLK.out] at hcut
     have hlkl : lk ≤ ln := by have := HLK.out; omega
     clear hfo hRZ
     go_upto_region 11 with (first
      | (go_at_call 70; refine hcut.mono ?_; rintro e w3 ⟨a5, cp5, rfl, hown5, hb3⟩; have hfil3 := box_below hfil hb3; have e0 := cell_of_block hfil3 0; have z0 := unfrozen_of_block hfil3 0; have rb1 := block_setCell (i := 0) hfil3 (.slice (a5.map fun g => ⟨g, 0, none⟩) lk cp5); have e1 := cell_of_block rb1 1; have z1 := unfrozen_of_block rb1 1; have rb2 := block_setCell (i := 1) rb1 (.int .i64 (f.safe : Int)); simp at e0 e1))
     have hob5 : (Value.slice (a5.map fun g => (⟨g, 0, none⟩ : Addr)) lk cp5).ownBlock = a5 := slv_own (a5, lk, cp5, 0)
     have hbe3 : Below wr.heap.size wr w3 := hbe.trans (hb3.mono hbe.size)
     have hk4 : Keep (fun i => i = bf) w3 ((w3.setCell ⟨bf, 0, none⟩ (.slice (a5.map fun g => ⟨g, 0, none⟩) lk cp5)).setCell ⟨bf, 1, none⟩ (.int .i64 (f.safe : Int))) := ((Keep.refl (fun i => i = bf) w3).setCell (p := ⟨bf, 0, none⟩) rfl _).setCell (p := ⟨bf, 1, none⟩) rfl _
     have hZs : bf < Z.heap.size := (Array.getElem?_eq_some_iff.1 hfil).1
     have hown6 := own_keep hown5 hk4 (fun g hg e => by have := (hown5.lt g hg).1; omega)
     have hbe4 : Below wr.heap.size wr ((w3.setCell ⟨bf, 0, none⟩ (.slice (a5.map fun g => ⟨g, 0, none⟩) lk cp5)).setCell ⟨bf, 1, none⟩ (.int .i64 (f.safe : Int))) := (hbe3.setCell (p := ⟨bf, 0, none⟩) (show wr.heap.size ≤ bf by omega) _).setCell (p := ⟨bf, 1, none⟩) (show wr.heap.size ≤ bf by omega) _
     have hd0 := cell_of_block rb2 0
     have hd1 := cell_of_block rb2 1
     simp at hd0 hd1
     clear hown5 hfil3 e0 e1 z0 z1 rb1 rb2 f0 f1 hcut hb3
     generalize (w3.setCell ⟨bf, 0, none⟩ (.slice (a5.map fun g => ⟨g, 0, none⟩) lk cp5)).setCell ⟨bf, 1, none⟩ (.int .i64 (f.safe : Int)) = V at *
     have hDV := hD.below hbe4
     have hoL : ((m n).getD fv0).2.1 = ln := by rw [hm.out]; rfl
     have hPt := put_any d bm _ _ m n (by omega) hfl' a5 lk cp5 lk V hDV (by simp [rawK]) (by simp [rawK]; omega) (by omega) (by rw [hoL]; omega)
     rw [hoL] at hPt
     obtain ⟨A5, hA5⟩ : ∃ A : Option Addr, (a5.map fun g => (⟨g, 0, none⟩ : Addr)) = A := ⟨_, rfl⟩
     rw [hA5] at hPt hd0
     have hlen5 := fun w => len_slice A5 lk cp5 29 3 w Tryz.underlying29
     clear hoL hwr
     go_wp2_with (first
      | (go_at_call 52; refine hPt.mono ?_; rintro e w7 ⟨rfl, hD7, hk7⟩))
     have hff : restF f (0) = ⟨f.b.take lk, lk⟩ := by rw [(rest_nil f (by rw [HLN.out]; exact hsf)).1, HLK.out]
     have hrst : restL ((n, f) :: post) ([]) = (n, ⟨f.b.take lk, lk⟩) :: restL post [] := by
      conv => lhs; unfold restL
      rw [if_neg hne, ← hff]
      rfl
     have hpm := put_mid (g := ⟨f.b.take lk, lk⟩) hg.rise
     have hlkn : (f.b.take lk).length = lk := by rw [List.length_take, HLN.out]; omega
     have hraw : rawK { k with fs := dn ++ (n, ⟨f.b.take lk, lk⟩) :: post } = { rawK { k with fs := dn ++ (n, f) :: post } with used := (rawK { k with fs := dn ++ (n, f) :: post }).used + ((lk : Int) - (ln : Int)) } := by
      unfold rawK
      congr 1
      show ((used (dn ++ (n, (⟨f.b.take lk, lk⟩ : Fle)) :: post) : Nat) : Int) = ((used (dn ++ (n, f) :: post) : Nat) : Int) + ((lk : Int) - (ln : Int))
      rw [used_app, used_app]
      show ((used dn + ((f.b.take lk).length + used post) : Nat) : Int) = ((used dn + (f.b.length + used post) : Nat) : Int) + ((lk : Int) - (ln : Int))
      rw [hlkn, HLN.out]
      omega
     rw [← hraw] at hD7
     have hg1 : ({ k with fs := dn ++ (n, ⟨f.b.take lk, lk⟩) :: post } : Dk).Good := by
      have h := good_put (f := ⟨f.b.take lk, lk⟩) hg hnm (by rw [hlkn]; exact Nat.le_refl _) (hbd.take lk) (by
       show used (putL (dn ++ (n, f) :: post) n ⟨f.b.take lk, lk⟩) ≤ k.room
       rw [hpm, used_app]
       have h2 := hg.used
       simp only [used_app] at h2
       have h3 : used ((n, f) :: post) = f.b.length + used post := rfl
       have h4 : used ((n, (⟨f.b.take lk, lk⟩ : Fle)) :: post) = (f.b.take lk).length + used post := rfl
       rw [h4, hlkn]
       rw [h3, HLN.out] at h2
       omega)
      have e : putL ({ k with fs := dn ++ (n, f) :: post } : Dk).fs n ⟨f.b.take lk, lk⟩ = dn ++ (n, ⟨f.b.take lk, lk⟩) :: post := hpm
      rw [e] at h
      exact h
     have hDp : Dp wr Fi d { k with fs := dn ++ (n, ⟨f.b.take lk, lk⟩) :: post } w7 := by
      refine DiskAt.put (k := { k with fs := dn ++ (n, f) :: post }) (S := fun _ => False) (c := (a5, lk, cp5, (lk : Int))) (f := ⟨f.b.take lk, lk⟩) hbm ht ha fd lt hD.blk hD.map (Keep.ofBelow hbe4) (fun i hi => hi.elim) hk7 hD7 hpm.symm hg.rise hg1 rfl hlkn.symm ?_ (fun g hg => ?_)
      ·show w7.ownsRow 0 5 1 (slv (a5, lk, cp5, (lk : Int))) (f.b.take lk).length (bc (f.b.take lk))
       rw [hlkn]
       refine own_weak (own_keep hown6 hk7 (fun g hg e => ?_)) (Nat.zero_le _)
       have h1 := (hown6.lt g hg).1
       have h2 := hD.lt
       have h3 := hD.map.lt
       omega
      ·have hg' : a5 = some g := hg
       have h1 := hown6.lt g (by rw [hob5]; exact hg')
       have hgn : wr.heap.size ≤ g := by have := hbe.size; omega
       exact ⟨Or.inr ⟨hgn, by have := hk7.size; omega⟩, fun t e _ he => row_new (k := { k with fs := dn ++ (n, f) :: post }) ht lt hgn t e he⟩
     obtain ⟨F7, hDk7, hk8, hF8⟩ := hDp
     have HI7 : True := trivial
     refine ⟨⟨i + 1, dn ++ [(n, ⟨f.b.take lk, lk⟩)], post, [], by go_num, by simp [hdn], ?_, ?_, ?_, ?_, ?_⟩, ?_⟩
     ·exact ⟨_, _, rfl, HI2, HI3, fun h => absurd rfl h⟩
     ·exact fun h => absurd rfl h
     ·show (dn ++ [(n, (⟨f.b.take lk, lk⟩ : Fle))]) ++ restL post [] = _
      rw [← HR.out, hrst, List.append_assoc]
      rfl
     ·show List.map Prod.fst _ = _
      rw [← HNm.out]; simp
     ·rw [List.append_assoc]
      exact Dp.next hki hFi ⟨F7, hDk7, hk8, hF8⟩
     ·simp [intOf]; omega
    | cons z zs =>
     obtain ⟨ka, kc, rfl, HI2, HI3, HI4⟩ := HI
     obtain ⟨off, rfl, hkc⟩ := HI4 (by simp)
     have hz := hkc 0 (by simp)
     simp only [Nat.add_zero, List.getD_cons_zero] at hz
     simp only [List.length_cons] at HI2
     obtain ⟨kq, hrf, hkq⟩ : ∃ kq : Nat, restF f z = ⟨f.b.take (f.safe + kq), f.safe + kq⟩ ∧ kq = ((max z 0) % (((f.b.length - f.safe : Nat) : Int) + 1)).toNat := ⟨_, rfl, rfl⟩
     have hkq2 : (max z 0) % (((ln : Int) - (f.safe : Int)) + 1) = (kq : Int) ∧ f.safe + kq ≤ ln := by
      rw [HLN.out] at hkq
      have e1 : ((ln - f.safe : Nat) : Int) = (ln : Int) - (f.safe : Int) := by omega
      rw [e1] at hkq
      have h1 := Int.emod_nonneg (max z 0) (show ((ln : Int) - (f.safe : Int)) + 1 ≠ 0 by omega)
      have h2 := Int.emod_lt_of_pos (max z 0) (show 0 < ((ln : Int) - (f.safe : Int)) + 1 by omega)
      omega
     obtain ⟨hkq3, hkq4⟩ := hkq2
     have HRF : Hid (restF f z = ⟨f.b.take (f.safe + kq), f.safe + kq⟩) := hrf
     clear hkq hrf
     have hzs : zs.length + 1 ≤ kc := HI2
     have hmx := fun (w : World) (ty : TypeId) => max_int z 0 ty w
     have hz' := fun (o : Obj) => ((Keep.refl (fun _ => False) wr).alloc o).cell hz (fun h => h)
     have hwl2 : IntKind.i64.wrap ((ln : Int) - (f.safe : Int) + 1) = (ln : Int) - (f.safe : Int) + 1 := by rw [IntKind.wrap_i64]; omega
     by_cases hkc1 : kc = 1
     ·have hzs0 : zs.length = 0 := by omega
      have hzn : zs = [] := List.eq_nil_of_length_eq_zero hzs0
      subst hzn
      subst hkc1
      have hIB : IRd wr bk (.slice (some ⟨bk, off, none⟩) 0 0) [] := ⟨_, _, rfl, Nat.le_refl _, by omega, fun h => absurd rfl h⟩
      go_upto_region 10 with (first
       | (at_lookup; refine wp_look1 rfl _ _ rfl bm _ m rfl hD.map n hmax rfl _ _ hfo ?_))
      rw [hkq3]
      clear hkq3 hmx hwl2
      have hbe : Below wr.heap.size wr (wr.alloc (.cells #[.slice A ln cp, .int .i64 (f.safe : Int)] 106)) := (Below.refl _ _).alloc (Nat.le_refl _) _
      have hfil := alloc_at wr (.cells #[.slice A ln cp, .int .i64 (f.safe : Int)] 106)
      obtain ⟨bf, hbf⟩ : ∃ bf, wr.heap.size = bf := ⟨_, rfl⟩
      rw [hbf] at hfil ⊢
      generalize wr.alloc (.cells #[.slice A ln cp, .int .i64 (f.safe : Int)] 106) = Z at *
      have f0 := cell_of_block hfil 0
      have f1 := cell_of_block hfil 1
      simp at f0 f1
      have hRZ : Rd Z A ln cp f.b := hRr.carry (Nat.le_refl _) hbe
      have hcut := fcut_any A ln cp f.b f.safe (f.safe + kq) Z hRZ (by omega) (by omega)
      have hmn : min f.safe (f.safe + kq) = f.safe := by omega
      rw [hmn] at hcut
      clear hmn
      obtain ⟨lk, HLK⟩ : ∃ lk, Hid (f.safe + kq = lk) := ⟨_, rfl⟩
      have hwr : (f.safe : Int) + (kq : Int) = (lk : Int) := by have := HLK.out; omega
      rw [HLK.out] at hcut
      have hlkl : lk ≤ ln := by have := HLK.out; omega
      clear hfo hRZ
      go_upto_region 11 with (first
       | (go_at_call 70; refine hcut.mono ?_; rintro e w3 ⟨a5, cp5, rfl, hown5, hb3⟩; have hfil3 := box_below hfil hb3; have e0 := cell_of_block hfil3 0; have z0 := unfrozen_of_block hfil3 0; have rb1 := block_setCell (i := 0) hfil3 (.slice (a5.map fun g => ⟨g, 0, none⟩) lk cp5); have e1 := cell_of_block rb1 1; have z1 := unfrozen_of_block rb1 1; have rb2 := block_setCell (i := 1) rb1 (.int .i64 (f.safe : Int)); simp at e0 e1))
      have hob5 : (Value.slice (a5.map fun g => (⟨g, 0, none⟩ : Addr)) lk cp5).ownBlock = a5 := slv_own (a5, lk, cp5, 0)
      have hbe3 : Below wr.heap.size wr w3 := hbe.trans (hb3.mono hbe.size)
      have hk4 : Keep (fun i => i = bf) w3 ((w3.setCell ⟨bf, 0, none⟩ (.slice (a5.map fun g => ⟨g, 0, none⟩) lk cp5)).setCell ⟨bf, 1, none⟩ (.int .i64 (f.safe : Int))) := ((Keep.refl (fun i => i = bf) w3).setCell (p := ⟨bf, 0, none⟩) rfl _).setCell (p := ⟨bf, 1, none⟩) rfl _
      have hZs : bf < Z.heap.size := (Array.getElem?_eq_some_iff.1 hfil).1
      have hown6 := own_keep hown5 hk4 (fun g hg e => by have := (hown5.lt g hg).1; omega)
      have hbe4 : Below wr.heap.size wr ((w3.setCell ⟨bf, 0, none⟩ (.slice (a5.map fun g => ⟨g, 0, none⟩) lk cp5)).setCell ⟨bf, 1, none⟩ (.int .i64 (f.safe : Int))) := (hbe3.setCell (p := ⟨bf, 0, none⟩) (show wr.heap.size ≤ bf by omega) _).setCell (p := ⟨bf, 1, none⟩) (show wr.heap.size ≤ bf by omega) _
      have hd0 := cell_of_block rb2 0
      have hd1 := cell_of_block rb2 1
      simp at hd0 hd1
      clear hown5 hfil3 e0 e1 z0 z1 rb1 rb2 f0 f1 hcut hb3
      generalize (w3.setCell ⟨bf, 0, none⟩ (.slice (a5.map fun g => ⟨g, 0, none⟩) lk cp5)).setCell ⟨bf, 1, none⟩ (.int .i64 (f.safe : Int)) = V at *
      have hDV := hD.below hbe4
      have hoL : ((m n).getD fv0).2.1 = ln := by rw [hm.out]; rfl
      have hPt := put_any d bm _ _ m n (by omega) hfl' a5 lk cp5 lk V hDV (by simp [rawK]) (by simp [rawK]; omega) (by omega) (by rw [hoL]; omega)
      rw [hoL] at hPt
      obtain ⟨A5, hA5⟩ : ∃ A : Option Addr, (a5.map fun g => (⟨g, 0, none⟩ : Addr)) = A := ⟨_, rfl⟩
      rw [hA5] at hPt hd0
      have hlen5 := fun w => len_slice A5 lk cp5 29 3 w Tryz.underlying29
      clear hoL hwr
      go_wp2_with (first
       | (go_at_call 52; refine hPt.mono ?_; rintro e w7 ⟨rfl, hD7, hk7⟩))
      have hff : restF f (z) = ⟨f.b.take lk, lk⟩ := by rw [HRF.out, HLK.out]
      have hrst : restL ((n, f) :: post) (z :: ([] : List Int)) = (n, ⟨f.b.take lk, lk⟩) :: restL post ([] : List Int) := by
       conv => lhs; unfold restL
       rw [if_neg hne, ← hff]
       rfl
      have hpm := put_mid (g := ⟨f.b.take lk, lk⟩) hg.rise
      have hlkn : (f.b.take lk).length = lk := by rw [List.length_take, HLN.out]; omega
      have hraw : rawK { k with fs := dn ++ (n, ⟨f.b.take lk, lk⟩) :: post } = { rawK { k with fs := dn ++ (n, f) :: post } with used := (rawK { k with fs := dn ++ (n, f) :: post }).used + ((lk : Int) - (ln : Int)) } := by
       unfold rawK
       congr 1
       show ((used (dn ++ (n, (⟨f.b.take lk, lk⟩ : Fle)) :: post) : Nat) : Int) = ((used (dn ++ (n, f) :: post) : Nat) : Int) + ((lk : Int) - (ln : Int))
       rw [used_app, used_app]
       show ((used dn + ((f.b.take lk).length + used post) : Nat) : Int) = ((used dn + (f.b.length + used post) : Nat) : Int) + ((lk : Int) - (ln : Int))
       rw [hlkn, HLN.out]
       omega
      rw [← hraw] at hD7
      have hg1 : ({ k with fs := dn ++ (n, ⟨f.b.take lk, lk⟩) :: post } : Dk).Good := by
       have h := good_put (f := ⟨f.b.take lk, lk⟩) hg hnm (by rw [hlkn]; exact Nat.le_refl _) (hbd.take lk) (by
        show used (putL (dn ++ (n, f) :: post) n ⟨f.b.take lk, lk⟩) ≤ k.room
        rw [hpm, used_app]
        have h2 := hg.used
        simp only [used_app] at h2
        have h3 : used ((n, f) :: post) = f.b.length + used post := rfl
        have h4 : used ((n, (⟨f.b.take lk, lk⟩ : Fle)) :: post) = (f.b.take lk).length + used post := rfl
        rw [h4, hlkn]
        rw [h3, HLN.out] at h2
        omega)
       have e : putL ({ k with fs := dn ++ (n, f) :: post } : Dk).fs n ⟨f.b.take lk, lk⟩ = dn ++ (n, ⟨f.b.take lk, lk⟩) :: post := hpm
       rw [e] at h
       exact h
      have hDp : Dp wr Fi d { k with fs := dn ++ (n, ⟨f.b.take lk, lk⟩) :: post } w7 := by
       refine DiskAt.put (k := { k with fs := dn ++ (n, f) :: post }) (S := fun _ => False) (c := (a5, lk, cp5, (lk : Int))) (f := ⟨f.b.take lk, lk⟩) hbm ht ha fd lt hD.blk hD.map (Keep.ofBelow hbe4) (fun i hi => hi.elim) hk7 hD7 hpm.symm hg.rise hg1 rfl hlkn.symm ?_ (fun g hg => ?_)
       ·show w7.ownsRow 0 5 1 (slv (a5, lk, cp5, (lk : Int))) (f.b.take lk).length (bc (f.b.take lk))
        rw [hlkn]
        refine own_weak (own_keep hown6 hk7 (fun g hg e => ?_)) (Nat.zero_le _)
        have h1 := (hown6.lt g hg).1
        have h2 := hD.lt
        have h3 := hD.map.lt
        omega
       ·have hg' : a5 = some g := hg
        have h1 := hown6.lt g (by rw [hob5]; exact hg')
        have hgn : wr.heap.size ≤ g := by have := hbe.size; omega
        exact ⟨Or.inr ⟨hgn, by have := hk7.size; omega⟩, fun t e _ he => row_new (k := { k with fs := dn ++ (n, f) :: post }) ht lt hgn t e he⟩
      obtain ⟨F7, hDk7, hk8, hF8⟩ := hDp
      have HI7 : ([] : List Int) ≠ [] → ¬ Fi bk := fun hz h => by
       rcases hFi bk h with h | h
       ·exact hbk (HKp.out (by simp)) h
       ·have := hbkl (HKp.out (by simp)); have := hb1.size; omega
      refine ⟨⟨i + 1, dn ++ [(n, ⟨f.b.take lk, lk⟩)], post, ([] : List Int), by go_num, by simp [hdn], ?_, ?_, ?_, ?_, ?_⟩, ?_⟩
      ·exact hIB.keep hk8 HI7
      ·exact fun h => HKp.out (by simp)
      ·show (dn ++ [(n, (⟨f.b.take lk, lk⟩ : Fle))]) ++ restL post ([] : List Int) = _
       rw [← HR.out, hrst, List.append_assoc]
       rfl
      ·show List.map Prod.fst _ = _
       rw [← HNm.out]; simp
      ·rw [List.append_assoc]
       exact Dp.next hki hFi ⟨F7, hDk7, hk8, hF8⟩
      ·simp [intOf]; omega
     ·have hIC : IRd wr bk (.slice (some ⟨bk, off + 1, none⟩) zs.length (kc - 1)) zs := ⟨_, _, rfl, by omega, by omega, fun _ => ⟨off + 1, rfl, fun j hj => by
       have := hkc (j + 1) (by simp; omega)
       rw [List.getD_cons_succ] at this
       rw [← this]
       congr 2
       omega⟩⟩
      have hkc2 : (1 : Int) ≤ (kc : Int) := by omega
      have hkc3 : ¬ kc = 1 := hkc1
      go_upto_region 10 with (first
       | (at_lookup; refine wp_look1 rfl _ _ rfl bm _ m rfl hD.map n hmax rfl _ _ hfo ?_))
      rw [hkq3]
      clear hkq3 hmx hwl2
      have hbe : Below wr.heap.size wr (wr.alloc (.cells #[.slice A ln cp, .int .i64 (f.safe : Int)] 106)) := (Below.refl _ _).alloc (Nat.le_refl _) _
      have hfil := alloc_at wr (.cells #[.slice A ln cp, .int .i64 (f.safe : Int)] 106)
      obtain ⟨bf, hbf⟩ : ∃ bf, wr.heap.size = bf := ⟨_, rfl⟩
      rw [hbf] at hfil ⊢
      generalize wr.alloc (.cells #[.slice A ln cp, .int .i64 (f.safe : Int)] 106) = Z at *
      have f0 := cell_of_block hfil 0
      have f1 := cell_of_block hfil 1
      simp at f0 f1
      have hRZ : Rd Z A ln cp f.b := hRr.carry (Nat.le_refl _) hbe
      have hcut := fcut_any A ln cp f.b f.safe (f.safe + kq) Z hRZ (by omega) (by omega)
      have hmn : min f.safe (f.safe + kq) = f.safe := by omega
      rw [hmn] at hcut
      clear hmn
      obtain ⟨lk, HLK⟩ : ∃ lk, Hid (f.safe + kq = lk) := ⟨_, rfl⟩
      have hwr : (f.safe : Int) + (kq : Int) = (lk : Int) := by have := HLK.out; omega
      rw [HLK.out] at hcut
      have hlkl : lk ≤ ln := by have := HLK.out; omega
      clear hfo hRZ
      go_upto_region 11 with (first
       | (go_at_call 70; refine hcut.mono ?_; rintro e w3 ⟨a5, cp5, rfl, hown5, hb3⟩; have hfil3 := box_below hfil hb3; have e0 := cell_of_block hfil3 0; have z0 := unfrozen_of_block hfil3 0; have rb1 := block_setCell (i := 0) hfil3 (.slice (a5.map fun g => ⟨g, 0, none⟩) lk cp5); have e1 := cell_of_block rb1 1; have z1 := unfrozen_of_block rb1 1; have rb2 := block_setCell (i := 1) rb1 (.int .i64 (f.safe : Int)); simp at e0 e1))
      have hob5 : (Value.slice (a5.map fun g => (⟨g, 0, none⟩ : Addr)) lk cp5).ownBlock = a5 := slv_own (a5, lk, cp5, 0)
      have hbe3 : Below wr.heap.size wr w3 := hbe.trans (hb3.mono hbe.size)
      have hk4 : Keep (fun i => i = bf) w3 ((w3.setCell ⟨bf, 0, none⟩ (.slice (a5.map fun g => ⟨g, 0, none⟩) lk cp5)).setCell ⟨bf, 1, none⟩ (.int .i64 (f.safe : Int))) := ((Keep.refl (fun i => i = bf) w3).setCell (p := ⟨bf, 0, none⟩) rfl _).setCell (p := ⟨bf, 1, none⟩) rfl _
      have hZs : bf < Z.heap.size := (Array.getElem?_eq_some_iff.1 hfil).1
      have hown6 := own_keep hown5 hk4 (fun g hg e => by have := (hown5.lt g hg).1; omega)
      have hbe4 : Below wr.heap.size wr ((w3.setCell ⟨bf, 0, none⟩ (.slice (a5.map fun g => ⟨g, 0, none⟩) lk cp5)).setCell ⟨bf, 1, none⟩ (.int .i64 (f.safe : Int))) := (hbe3.setCell (p := ⟨bf, 0, none⟩) (show wr.heap.size ≤ bf by omega) _).setCell (p := ⟨bf, 1, none⟩) (show wr.heap.size ≤ bf by omega) _
      have hd0 := cell_of_block rb2 0
      have hd1 := cell_of_block rb2 1
      simp at hd0 hd1
      clear hown5 hfil3 e0 e1 z0 z1 rb1 rb2 f0 f1 hcut hb3
      generalize (w3.setCell ⟨bf, 0, none⟩ (.slice (a5.map fun g => ⟨g, 0, none⟩) lk cp5)).setCell ⟨bf, 1, none⟩ (.int .i64 (f.safe : Int)) = V at *
      have hDV := hD.below hbe4
      have hoL : ((m n).getD fv0).2.1 = ln := by rw [hm.out]; rfl
      have hPt := put_any d bm _ _ m n (by omega) hfl' a5 lk cp5 lk V hDV (by simp [rawK]) (by simp [rawK]; omega) (by omega) (by rw [hoL]; omega)
      rw [hoL] at hPt
      obtain ⟨A5, hA5⟩ : ∃ A : Option Addr, (a5.map fun g => (⟨g, 0, none⟩ : Addr)) = A := ⟨_, rfl⟩
      rw [hA5] at hPt hd0
      have hlen5 := fun w => len_slice A5 lk cp5 29 3 w Tryz.underlying29
      clear hoL hwr
      go_wp2_with (first
       | (go_at_call 52; refine hPt.mono ?_; rintro e w7 ⟨rfl, hD7, hk7⟩))
      have hff : restF f (z) = ⟨f.b.take lk, lk⟩ := by rw [HRF.out, HLK.out]
      have hrst : restL ((n, f) :: post) (z :: zs) = (n, ⟨f.b.take lk, lk⟩) :: restL post zs := by
       conv => lhs; unfold restL
       rw [if_neg hne, ← hff]
       rfl
      have hpm := put_mid (g := ⟨f.b.take lk, lk⟩) hg.rise
      have hlkn : (f.b.take lk).length = lk := by rw [List.length_take, HLN.out]; omega
      have hraw : rawK { k with fs := dn ++ (n, ⟨f.b.take lk, lk⟩) :: post } = { rawK { k with fs := dn ++ (n, f) :: post } with used := (rawK { k with fs := dn ++ (n, f) :: post }).used + ((lk : Int) - (ln : Int)) } := by
       unfold rawK
       congr 1
       show ((used (dn ++ (n, (⟨f.b.take lk, lk⟩ : Fle)) :: post) : Nat) : Int) = ((used (dn ++ (n, f) :: post) : Nat) : Int) + ((lk : Int) - (ln : Int))
       rw [used_app, used_app]
       show ((used dn + ((f.b.take lk).length + used post) : Nat) : Int) = ((used dn + (f.b.length + used post) : Nat) : Int) + ((lk : Int) - (ln : Int))
       rw [hlkn, HLN.out]
       omega
      rw [← hraw] at hD7
      have hg1 : ({ k with fs := dn ++ (n, ⟨f.b.take lk, lk⟩) :: post } : Dk).Good := by
       have h := good_put (f := ⟨f.b.take lk, lk⟩) hg hnm (by rw [hlkn]; exact Nat.le_refl _) (hbd.take lk) (by
        show used (putL (dn ++ (n, f) :: post) n ⟨f.b.take lk, lk⟩) ≤ k.room
        rw [hpm, used_app]
        have h2 := hg.used
        simp only [used_app] at h2
        have h3 : used ((n, f) :: post) = f.b.length + used post := rfl
        have h4 : used ((n, (⟨f.b.take lk, lk⟩ : Fle)) :: post) = (f.b.take lk).length + used post := rfl
        rw [h4, hlkn]
        rw [h3, HLN.out] at h2
        omega)
       have e : putL ({ k with fs := dn ++ (n, f) :: post } : Dk).fs n ⟨f.b.take lk, lk⟩ = dn ++ (n, ⟨f.b.take lk, lk⟩) :: post := hpm
       rw [e] at h
       exact h
      have hDp : Dp wr Fi d { k with fs := dn ++ (n, ⟨f.b.take lk, lk⟩) :: post } w7 := by
       refine DiskAt.put (k := { k with fs := dn ++ (n, f) :: post }) (S := fun _ => False) (c := (a5, lk, cp5, (lk : Int))) (f := ⟨f.b.take lk, lk⟩) hbm ht ha fd lt hD.blk hD.map (Keep.ofBelow hbe4) (fun i hi => hi.elim) hk7 hD7 hpm.symm hg.rise hg1 rfl hlkn.symm ?_ (fun g hg => ?_)
       ·show w7.ownsRow 0 5 1 (slv (a5, lk, cp5, (lk : Int))) (f.b.take lk).length (bc (f.b.take lk))
        rw [hlkn]
        refine own_weak (own_keep hown6 hk7 (fun g hg e => ?_)) (Nat.zero_le _)
        have h1 := (hown6.lt g hg).1
        have h2 := hD.lt
        have h3 := hD.map.lt
        omega
       ·have hg' : a5 = some g := hg
        have h1 := hown6.lt g (by rw [hob5]; exact hg')
        have hgn : wr.heap.size ≤ g := by have := hbe.size; omega
        exact ⟨Or.inr ⟨hgn, by have := hk7.size; omega⟩, fun t e _ he => row_new (k := { k with fs := dn ++ (n, f) :: post }) ht lt hgn t e he⟩
      obtain ⟨F7, hDk7, hk8, hF8⟩ := hDp
      have HI7 : zs ≠ [] → ¬ Fi bk := fun hz h => by
       rcases hFi bk h with h | h
       ·exact hbk (HKp.out (by simp)) h
       ·have := hbkl (HKp.out (by simp)); have := hb1.size; omega
      refine ⟨⟨i + 1, dn ++ [(n, ⟨f.b.take lk, lk⟩)], post, zs, by go_num, by simp [hdn], ?_, ?_, ?_, ?_, ?_⟩, ?_⟩
      ·exact hIC.keep hk8 HI7
      ·exact fun h => HKp.out (by simp)
      ·show (dn ++ [(n, (⟨f.b.take lk, lk⟩ : Fle))]) ++ restL post zs = _
       rw [← HR.out, hrst, List.append_assoc]
       rfl
      ·show List.map Prod.fst _ = _
       rw [← HNm.out]; simp
      ·rw [List.append_assoc]
       exact Dp.next hki hFi ⟨F7, hDk7, hk8, hF8⟩
      ·simp [intOf]; omega
end Go.Proofs.YtikkieaokfailaaGreatDoor
