/- Texts of one seat, one behind the other: LgC, LzL, AnyO, AnyP, CcP, CcA, LgN, LgR, DkR, LgD, LgE, LgF. -/
import Derived.Test.YtikkieaokfailaaGreatDoorM3
import Derived.Lib.ItoaMem
import Derived.Test.YtikkieaokfailaaGreatDoorRows
import Derived.ProofKit
import Derived.OpenShut
import Derived.ChangeOld
import Derived.Deep.DeepHandedRow
import Derived.Lib.LaidTab
import Derived.Lib.SmallJoins
import Derived.Shelf.Vars
import Derived.Test.YtikkieaokfailaaGreatDoorM1
import Derived.Laws.OwnMore
import Derived.Laws.MakeOwn
import Derived.Test.YtikkieaokfailaaGreatDoorM2
namespace Go.Proofs.YtikkieaokfailaaGreatDoor
open Go.RowKit Go.Joins Go.Sort
def Pw (w : World) : Prop := Lib.TabIs Tryz.prog w "internal/strconv.uint64pow10" .u64 Lib.pow10Tab
theorem Pw.at {w : World} (h : Pw w) : 0 < w.heap.size := by
  unfold Pw Lib.TabIs World.var? at h
  rw [show Tryz.prog.globalNamed "internal/strconv.uint64pow10" = some 0 from by kernel_rfl] at h
  simp only [Option.bind_some] at h
  rcases Nat.lt_or_ge 0 w.heap.size with h' | h'
  · exact h'
  · rw [Array.getElem?_eq_none h'] at h; cases h
theorem Pw.keep {S : Nat → Prop} {w w' : World} (h : Pw w) (hk : Keep S w w') (hs : ¬ S 0) : Pw w' := by
  have hlt := h.at
  unfold Pw Lib.TabIs World.var? at h ⊢
  rw [show Tryz.prog.globalNamed "internal/strconv.uint64pow10" = some 0 from by kernel_rfl] at h ⊢
  simp only [Option.bind_some] at h ⊢
  rw [hk.block 0 hlt hs]
  exact h
theorem Pw.below {w w' : World} (h : Pw w) (hb : Below w.heap.size w w') : Pw w' := h.keep (S := fun _ => False) (Keep.ofBelow hb) (fun h => h)
theorem grow_below (w : World) (k : Nat) (os : Array Obj) : Below w.heap.size w (grow (w.drewN k) os) := by
  refine ⟨rfl, rfl, rfl, ?_, fun j hj => ?_⟩
  · show w.heap.size ≤ (w.heap ++ os).size
    rw [Array.size_append]; omega
  · show (w.heap ++ os)[j]? = w.heap[j]?
    exact Array.getElem?_append_left hj
theorem itoa_any (N : Nat) (hN : N ≤ 9223372036854775807) (w : World) (hP : Pw w) : Calls Tryz.prog 140 #[.int .i64 (N : Int)] w fun e w' => e = .returned (.string ⟨(Lib.decDigits N).toArray⟩) ∧ Below w.heap.size w w' := by
  have h := Any.strconv_Itoa Tryz.laysM171 (N : Int) (by omega) (by omega) w hP
  rw [Lib.itoa_nonneg] at h
  refine h.mono ?_
  rintro e w' ⟨rfl, k, os, rfl⟩
  exact ⟨rfl, grow_below _ _ _⟩
theorem holds_zero0 (w : World) (T : TypeId) (nd : Nat) (hs : nd ≤ 24) : Holds (fun (b : UInt8) => Value.int .u8 (b.toNat : Int)) (w.alloc (.cells Lib.zeros24 T)) w.heap.size 0 (Array.replicate nd (0 : UInt8)) := fun j hj => by
  have hj' : j < nd := by simpa using hj
  refine ⟨?_, World.frozen?_alloc_new _ _ _ _⟩
  rw [World.cell?_alloc_new, Lib.zeros24_at _ (by omega), getElem!_pos _ j hj]
  simp
theorem fin_pos0 (w : World) (o : Obj) (dk : Array UInt8) (k : Nat) : ∃ os, (putRow (fun (b : UInt8) => Value.int .u8 (b.toNat : Int)) (w.alloc o) w.heap.size 0 dk).drewN k = grow (w.drewN k) os := by
  rw [alloc_eq_grow]
  obtain ⟨os', _, e⟩ := putRow_grow_new (fun (b : UInt8) => Value.int .u8 (b.toNat : Int)) w #[o] w.heap.size 0 dk (Nat.le_refl _)
  exact ⟨os', by rw [e]; rfl⟩
set_option maxHeartbeats 6400000 in
set_option maxRecDepth 100000 in
theorem ifmt_any (u : Nat) (hu64 : u < 18446744073709551616) (w : World) (hP : Pw w) : Calls Tryz.prog 158 #[.int .u64 (u : Int), .int .i64 10] w fun e w' => e = .returned (.string ⟨(Lib.decDigits u).toArray⟩) ∧ Below w.heap.size w w' := by
  have hsm := fun (h : u < 100) => Any.internal_strconv_small Tryz.lays283 u h
  have hnd := fun (h : 1 ≤ u) w hP => Any.internal_strconv_numDigits Tryz.laysM284 u h hu64 w hP
  by_cases hs : u < 100
  · have hsm := hsm hs w
    have hlt : (u : Int) < 100 := by omega
    have hcv : IntKind.i64.wrap (u : Int) = (u : Int) := by rw [IntKind.wrap_i64]; omega
    clear hnd
    go_enter Tryz.func158, Tryz.ntmps158
    go_wp2_with (go_at_call 170; refine hsm.mono ?_; rintro e w' ⟨rfl, rfl⟩)
    go_ret
    exact ⟨rfl, Below.refl _ _⟩
  · have hu1 : 1 ≤ u := by omega
    have hnlt : ¬ (u : Int) < 100 := by omega
    have hnd20 : Lib.nDigits u ≤ 20 := by have := Lib.numDigits_eq u hu1 hu64; split at this <;> omega
    have hb3 : Lib.nDigits u ≤ 24 := by omega
    have hal : Tryz.prog.arrayLen 184 = 24 := by kernel_rfl
    obtain ⟨N, HN⟩ : ∃ N, Hid (Lib.nDigits u = N) := ⟨_, rfl⟩
    rw [HN.out] at hb3 hnd20
    have hsl1 : ∀ W, (Instr.sliceAt 184 (.pointer (some ⟨w.heap.size, 0, none⟩)) none (some (.int .i64 (N : Int))) none).run Tryz.prog W = .ok (.slice (some ⟨w.heap.size, 0, none⟩) N 24) W := fun W => by
      rw [run_sliceAt_array_h W 184 ⟨w.heap.size, 0, none⟩ (by simp [Program.arrayLen, Program.elem, Tryz.underlying184]) .i64 (N : Int) (by omega) (by rw [hal]; omega)]
      go_simp
    have hH0 := holds_zero0 w 184 N (by omega)
    have hfmt := Any.internal_strconv_formatBase10 Tryz.lays285 w.heap.size 0 24 u (Array.replicate N 0) (w.alloc (.cells Lib.zeros24 184)) hH0 (by rw [Array.size_replicate, ← HN.out]; exact Lib.lt_pow_nDigits u) hu64 (by rw [Array.size_replicate]; omega)
    rw [Array.size_replicate] at hfmt
    have HH0 := Lib.hid hH0
    have hnd2 := hnd hu1 (w.alloc (.cells Lib.zeros24 184)) (Lib.tabIs_alloc hP _)
    rw [HN.out] at hnd2
    clear hH0 hal hnd hsm
    go_enter Tryz.func158, Tryz.ntmps158
    go_upto_region 6 with (first
      | (go_at_call 171; refine hnd2.mono ?_; rintro e w' ⟨rfl, rfl⟩))
    go_wp2_with (first
      | (go_at_call 172; refine hfmt.mono ?_; rintro e w' ⟨rfl, k, v', dk, rfl, hF⟩
         have hcv : (convert 29 9 (.slice (some ⟨w.heap.size, 0, none⟩) N 24)).run Tryz.prog ((putRow (fun (b : UInt8) => Value.int .u8 (b.toNat : Int)) (w.alloc (.cells Lib.zeros24 184)) w.heap.size 0 dk).drewN k) = .ok (.string ⟨(Lib.decDigits u).toArray⟩) ((putRow (fun (b : UInt8) => Value.int .u8 (b.toNat : Int)) (w.alloc (.cells Lib.zeros24 184)) w.heap.size 0 dk).drewN k) := (by
           have hFu : Lib.FmtInv (Lib.nDigits u) u 0 v' dk := by rw [HN.out]; exact hF
           have h := run_convert_bytes_back (P := Tryz.prog) ((putRow (fun (b : UInt8) => Value.int .u8 (b.toNat : Int)) (w.alloc (.cells Lib.zeros24 184)) w.heap.size 0 dk).drewN k) 29 9 5 ⟨w.heap.size, 0, none⟩ 24 (Lib.decDigits u) Tryz.underlying29 Tryz.underlying5 Tryz.underlying9 (fun j hj => by
             rw [Lib.row_is_numeral hFu j hj, Lib.add_plain, World.cell?_drewN]
             exact cell?_putRow (fun (b : UInt8) => Value.int .u8 (b.toNat : Int)) _ w.heap.size 0 _ dk HH0.out (by rw [hF.size, Array.size_replicate]) j (by rw [hF.size]; rw [Lib.decDigits_length, HN.out] at hj; exact hj))
           rw [Lib.decDigits_length, HN.out] at h
           exact h)))
    go_ret
    obtain ⟨os, eo⟩ := fin_pos0 w (.cells Lib.zeros24 184) dk k
    refine ⟨rfl, ?_⟩
    rw [eo]
    exact grow_below _ _ _
theorem fmt_any (u : Nat) (hu64 : u < 18446744073709551616) (w : World) (hP : Pw w) : Calls Tryz.prog 139 #[.int .u64 (u : Int), .int .i64 10] w fun e w' => e = .returned (.string ⟨(Lib.decDigits u).toArray⟩) ∧ Below w.heap.size w w' := by
  have h := ifmt_any u hu64 w hP
  obtain ⟨T, HT⟩ : ∃ T, (⟨(Lib.decDigits u).toArray⟩ : ByteArray) = T := ⟨_, rfl⟩
  rw [HT] at h ⊢
  go_enter Tryz.func139, Tryz.ntmps139
  go_wp2_with (go_at_call 158; refine h.mono ?_; rintro e w' ⟨rfl, hb⟩)
  go_ret
  exact ⟨rfl, hb⟩
def segN (g i : Nat) : Nm := ⟨([108, 111, 103, 45] ++ Lib.decDigits g ++ [45] ++ Lib.decDigits i).toArray⟩
theorem dig_len20 (u : Nat) (h : u < 18446744073709551616) : (Lib.decDigits u).length ≤ 20 := by
  rw [Lib.decDigits_length]
  by_cases h1 : 1 ≤ u
  · have := Lib.numDigits_eq u h1 h; split at this <;> omega
  · have : u = 0 := by omega
    subst this
    decide +kernel
theorem add_bytes (a b : List UInt8) : ((⟨a.toArray⟩ : ByteArray) ++ (⟨b.toArray⟩ : ByteArray)) = ⟨(a ++ b).toArray⟩ := by
  apply ByteArray.ext
  rw [ByteArray.data_append]
  simp
set_option maxHeartbeats 1000000 in
theorem segment_any (b off g i : Nat) (hg : g < 18446744073709551616) (hi : i ≤ 9223372036854775807) (w : World) (hP : Pw w) (hc : w.cell? ⟨b, off, none⟩ = some (.int .u64 (g : Int))) :
    Calls Tryz.prog 103 #[.pointer (some ⟨b, off, none⟩), .int .i64 (i : Int)] w fun e w' => e = .returned (.string (segN g i)) ∧ Below w.heap.size w w' := by
  have h1 := fmt_any g hg w hP
  have h2 := fun w hP => itoa_any i hi w hP
  have l1 := dig_len20 g hg
  have l2 := dig_len20 i (by omega)
  obtain ⟨Dg, HG⟩ : ∃ D, Hid (Lib.decDigits g = D) := ⟨_, rfl⟩
  obtain ⟨Di, HI⟩ : ∃ D, Hid (Lib.decDigits i = D) := ⟨_, rfl⟩
  have hs : segN g i = ⟨([108, 111, 103, 45] ++ Dg ++ [45] ++ Di).toArray⟩ := by unfold segN; rw [HG.out, HI.out]
  rw [HG.out] at h1 l1
  rw [HI.out] at l2
  simp only [HI.out] at h2
  rw [hs]
  clear hs
  obtain ⟨T1, HT1⟩ : ∃ T, Hid ((⟨Dg.toArray⟩ : ByteArray) = T) := ⟨_, rfl⟩
  obtain ⟨T2, HT2⟩ : ∃ T, Hid ((⟨Di.toArray⟩ : ByteArray) = T) := ⟨_, rfl⟩
  have s1 : T1.size ≤ 20 := by rw [← HT1.out]; show Dg.toArray.size ≤ 20; simpa using l1
  have s2 : T2.size ≤ 20 := by rw [← HT2.out]; show Di.toArray.size ≤ 20; simpa using l2
  have HE : Hid (((⟨#[108, 111, 103, 45]⟩ : ByteArray) ++ T1) ++ (⟨#[45]⟩ : ByteArray) ++ T2 = ⟨([108, 111, 103, 45] ++ Dg ++ [45] ++ Di).toArray⟩) := by
    show _ = _
    rw [← HT1.out, ← HT2.out]
    have e1 : (⟨#[108, 111, 103, 45]⟩ : ByteArray) = ⟨([108, 111, 103, 45] : List UInt8).toArray⟩ := rfl
    have e2 : (⟨#[45]⟩ : ByteArray) = ⟨([45] : List UInt8).toArray⟩ := rfl
    rw [e1, e2, add_bytes, add_bytes, add_bytes]
  rw [HT1.out] at h1
  simp only [HT2.out] at h2
  rw [← HE.out]
  clear l1 l2 HE
  go_enter Tryz.func103, Tryz.ntmps103
  go_wp2_with (first
    | (go_at_call 139; refine h1.mono ?_; rintro e w1 ⟨rfl, hb1⟩)
    | (go_at_call 140; refine (h2 _ (hP.below hb1)).mono ?_; rintro e w2 ⟨rfl, hb2⟩))
  go_ret
  exact ⟨rfl, hb1.trans (hb2.mono hb1.size)⟩
structure Pf (w : World) (F : Nat → Prop) (lb : Nat) : Prop where
  pw : Pw w
  fl : ∀ i, F i → 0 < i
  ll : 0 < lb
theorem Pf.next {w w' : World} {F F' : Nat → Prop} {lb : Nat} (h : Pf w F lb) (hk : Keep (fun i => F i ∨ i = lb) w w') (hF : ∀ i, F' i → F i ∨ w.heap.size ≤ i) : Pf w' F' lb := by
  refine ⟨h.pw.keep hk (fun hs => ?_), fun i hi => ?_, h.ll⟩
  · rcases hs with hs | hs
    · have := h.fl _ hs; omega
    · have := h.ll; omega
  · rcases hF i hi with h1 | h1
    · exact h.fl i h1
    · have := h.pw.at; omega
theorem Pf.below {w w' : World} {F : Nat → Prop} {lb : Nat} (h : Pf w F lb) (hb : Below w.heap.size w w') : Pf w' F lb := ⟨h.pw.below hb, h.fl, h.ll⟩
end Go.Proofs.YtikkieaokfailaaGreatDoor

namespace Go.Proofs.YtikkieaokfailaaGreatDoor
open Go.ChangeShapes Go.WideShapes Go.ChangeAt Go.RowKit
theorem gPw : Tryz.prog.globalNamed "internal/strconv.uint64pow10" = some 0 := by kernel_rfl
theorem gPwType : (Tryz.prog.globals[0]?).map (·.type) = some 199 := by kernel_rfl
theorem cellsPw : Tryz.prog.cellsOf 199 = 20 := by kernel_rfl
theorem cellsU64 : Tryz.prog.cellsOf 88 = 1 := by kernel_rfl
theorem pw_eq : (Rows.laid_internal_strconv_uint64pow10 : DataW Unit) = Lib.tabData .u64 Lib.pow10Tab := rfl
theorem pw_in {enc : TypeId × Value → Unit} {W : World} {base : Nat} {sp : Nat → Bool} {held : Bool} {cs : Array Value} {fuel : Nat} {p : List MemPlace} (hv : W.var? Tryz.prog "internal/strconv.uint64pow10" = some cs) (hd : DataW.trod enc Tryz.prog W base sp held fuel 199 cs.toList = some (Rows.laid_internal_strconv_uint64pow10, p)) : Pw W := by
 rw [pw_eq] at hd
 have hc := Lib.cells_of_tab Tryz.underlying199 Tryz.underlying88 cellsU64 cellsPw hd
 unfold Pw Lib.TabIs
 rw [hv, ← hc]
theorem pw_of {W : World} (h : laidMetH Tryz.prog [("math/bits.deBruijn32tab", Rows.laid_math_bits_deBruijn32tab), ("math/bits.deBruijn64tab", Rows.laid_math_bits_deBruijn64tab), ("internal/strconv.uint64pow10", Rows.laid_internal_strconv_uint64pow10)] W) : Pw W := by
 have h' : laidMet Tryz.prog [("math/bits.deBruijn32tab", Rows.laid_math_bits_deBruijn32tab), ("math/bits.deBruijn64tab", Rows.laid_math_bits_deBruijn64tab), ("internal/strconv.uint64pow10", Rows.laid_internal_strconv_uint64pow10)] W := h
 obtain ⟨ps, ⟨g1, t1, cs1, fuel1, p1, q1, hg1, ht1, hv1, hd1, hr1, _⟩, _⟩ := h'
 obtain ⟨g2, t2, cs2, fuel2, p2, q2, hg2, ht2, hv2, hd2, hr2, _⟩ := hr1
 obtain ⟨g3, t3, cs3, fuel3, p3, q3, hg3, ht3, hv3, hd3, _, _⟩ := hr2
 obtain rfl := Option.some.inj (gPw.symm.trans hg3)
 obtain rfl := Option.some.inj (gPwType.symm.trans ht3)
 exact pw_in hv3 hd3
end Go.Proofs.YtikkieaokfailaaGreatDoor

namespace Go.Proofs.YtikkieaokfailaaGreatDoor
open Go.RowKit
section
variable {P : Program} {ops : Array Oper} {Q : Exit → Act → World → Prop}
variable {U : List Nat} {G : Nat → Value → World → Prop} {W : World} {tm0 : Array Value} {df : List Deferred}
end
end Go.Proofs.YtikkieaokfailaaGreatDoor

namespace Go.Proofs.YtikkieaokfailaaGreatDoor
open Go.RowKit
theorem rd_one (w : World) (x : Int) (h0 : 0 ≤ x) (h1 : x ≤ 255) : Rd (w.alloc (.cells #[.int .u8 x] 5)) (some ⟨w.heap.size, 0, none⟩) 1 1 [x] := by
 refine ⟨rfl, Nat.le_refl _, by unfold maxLen; omega, (fun h => by cases h), (fun q hq => by simp at hq; omega), fun ad had j hj => ?_⟩
 cases had
 rw [add_flat]
 match j, hj with
 | 0, _ => unfold World.cell?; rw [World.alloc_heap_new]; rfl
theorem wp_app1K {wr : World} {ops : Array Oper} {rest : List Oper} {o : Oper} {a : Act} {Q : Exit → Act → World → Prop} (hgd : o.guard = none) (s x : Operand)
  (ho : o.op = .call { callee := .builtin .append, args := #[s, x], argTypes := #[29, 29] })
  (base : Nat) (v : Value) (n : Nat) (xs : List Int) (hs : a.eval s = v) (hown : wr.ownsRow base 5 1 v n (bc xs)) (x0 : Int) (h0 : 0 ≤ x0) (h1 : x0 ≤ 255) (hx : a.eval x = .slice (some ⟨wr.heap.size, 0, none⟩) 1 1) (hb : n ≤ 100000000) (hbase : base ≤ wr.heap.size)
  (h : ∀ v' w', w'.ownsRow base 5 1 v' (n + 1) (bc (xs ++ [x0])) → Below base wr w' → wpList Tryz.prog ops Q rest (a.put o.dst v') w') : wpList Tryz.prog ops Q (o :: rest) a (wr.alloc (.cells #[.int .u8 x0] 5)) := by
 refine wp_appK hgd s x ho base v n xs hs (hown.alloc _) _ 1 1 [x0] hx (rd_one wr x0 h0 h1) (by omega) (by rw [World.size_alloc]; omega) ?_
 intro v' w' h1 h2 _
 exact h v' w' h1 (below_step (Below.refl _ _) hbase hown h2)
end Go.Proofs.YtikkieaokfailaaGreatDoor

namespace Go.Proofs.YtikkieaokfailaaGreatDoor
open Go.RowKit
def sb (r : BitVec 32) : BitVec 32 := (r >>> 1) ^^^ (if r.getLsbD 0 then 0xedb88320#32 else 0#32)
def sh (r : BitVec 32) : Nat → BitVec 32
 | 0 => r
 | k + 1 => sb (sh r k)
def byB (x : Int) : BitVec 32 := BitVec.ofInt 32 x
def reg (r : BitVec 32) : List Int → BitVec 32
 | [] => r
 | x :: xs => reg (sh (r ^^^ byB x) 8) xs
def more (s : BitVec 32) (xs : List Int) : BitVec 32 := ~~~ (reg (~~~ s) xs)
theorem reg_append (r : BitVec 32) (xs ys : List Int) : reg r (xs ++ ys) = reg (reg r xs) ys := by
 induction xs generalizing r with
 | nil => rfl
 | cons x xs ih => exact ih _
def uw (r : BitVec 32) : Int := (r.toNat : Int)
theorem wrap_uw (r : BitVec 32) : IntKind.u32.wrap (r.toNat : Int) = uw r := by
 have := r.isLt
 rw [IntKind.wrap_u32]; unfold uw; omega
theorem ofInt_uw (r : BitVec 32) : BitVec.ofInt 32 (uw r) = r := by
 unfold uw; rw [BitVec.ofInt_natCast, BitVec.ofNat_toNat, BitVec.setWidth_eq]
theorem xor_byte (a : BitVec 32) (x : Int) : bits .xor .u32 (uw a) x = uw (a ^^^ byB x) := by
 show IntKind.u32.wrap ((BitVec.ofInt 32 (uw a) ^^^ BitVec.ofInt 32 x).toNat : Int) = _
 rw [ofInt_uw, wrap_uw]; rfl
theorem not_uw (a : BitVec 32) : bits .xor .u32 IntKind.u32.max (uw a) = uw (~~~ a) := by
 show IntKind.u32.wrap ((BitVec.ofInt 32 IntKind.u32.max ^^^ BitVec.ofInt 32 (uw a)).toNat : Int) = _
 rw [ofInt_uw, wrap_uw]
 have : BitVec.ofInt 32 IntKind.u32.max = BitVec.allOnes 32 := by decide
 rw [this, BitVec.allOnes_xor]
theorem and_uw (a : BitVec 32) : bits .and .u32 (uw a) 1 = if a.getLsbD 0 then 1 else 0 := by
 show IntKind.u32.wrap ((BitVec.ofInt 32 (uw a) &&& BitVec.ofInt 32 1).toNat : Int) = _
 rw [ofInt_uw, wrap_uw, uw, BitVec.toNat_and, show (BitVec.ofInt 32 1).toNat = 1 from by decide, Nat.and_one_is_mod]
 have hb : a.getLsbD 0 = decide (a.toNat % 2 = 1) := Nat.testBit_zero _
 rw [hb]
 by_cases h : a.toNat % 2 = 1
 ·simp [h]
 ·have h2 : a.toNat % 2 = 0 := by omega
  simp [h2]
theorem shr_uw (a : BitVec 32) : (uw a) / (2 : Int) = uw (a >>> (1 : Nat)) := by
 unfold uw; rw [BitVec.toNat_ushiftRight, Nat.shiftRight_eq_div_pow]; simp
theorem poly_uw (a : BitVec 32) : bits .xor .u32 (uw a) 3988292384 = uw (a ^^^ 0xedb88320#32) := xor_byte a 3988292384
end Go.Proofs.YtikkieaokfailaaGreatDoor

namespace Go.Proofs.YtikkieaokfailaaGreatDoor
open Go.RowKit
theorem sb_one {r : BitVec 32} (h : r.getLsbD 0 = true) : sb r = (r >>> 1) ^^^ 0xedb88320#32 := by unfold sb; rw [h]; rfl
theorem sb_nil {r : BitVec 32} (h : r.getLsbD 0 = false) : sb r = r >>> 1 := by unfold sb; rw [h]; simp
set_option maxRecDepth 100000 in
set_option maxHeartbeats 800000 in
theorem shifted_any (r : BitVec 32) (w : World) :
  Calls Tryz.prog 169 #[.int .u32 (uw r)] w fun e w' => e = .returned (.int .u32 (uw (sh r 8))) ∧ w' = w := by
 go_enter Tryz.func169, Tryz.ntmps169
 go_wp2_with fail
 go_loopw [0, 3, 4] (fun v f i wr => ∃ k : Nat, k ≤ 8 ∧ i = .int .i64 k ∧ v = .int .u32 (uw (sh r k)) ∧ wr = w) (fun _ _ i _ => 8 - (intOf i).toNat)
 case atStart => exact ⟨0, by omega, rfl, rfl, rfl⟩
 case round =>
  obtain ⟨k, hk, rfl, rfl, rfl⟩ := hrel
  by_cases hlt : k < 8
  ·have hcl : (k : Int) < 8 := by omega
   have hs : sh r (k + 1) = sb (sh r k) := rfl
   have ha := and_uw (sh r k)
   have hd := shr_uw (sh r k)
   have hp := poly_uw (sh r k >>> 1)
   cases hb : (sh r k).getLsbD 0 with
   | true =>
    rw [hb] at ha
    rw [sb_one hb] at hs
    have ha' : bits .and .u32 (uw (sh r k)) 1 = 1 := ha
    clear ha hb
    go_wp2
    exact ⟨⟨k + 1, by omega, by go_num, by rw [hs], trivial⟩, by simp [intOf]; omega⟩
   | false =>
    rw [hb] at ha
    rw [sb_nil hb] at hs
    have ha' : bits .and .u32 (uw (sh r k)) 1 = 0 := ha
    clear ha hb
    go_wp2
    exact ⟨⟨k + 1, by omega, by go_num, by rw [hs], trivial⟩, by simp [intOf]; omega⟩
  ·obtain rfl : k = 8 := by omega
   have hcl2 : ¬ ((8 : Nat) : Int) < 8 := by omega
   go_wp2
   go_ret
   exact ⟨rfl, rfl⟩
theorem reg_take (r : BitVec 32) (xs : List Int) (k : Nat) (h : k < xs.length) : reg r (xs.take (k + 1)) = sh (reg r (xs.take k) ^^^ byB (xs.getD k 0)) 8 := by
 rw [List.take_succ_eq_append_getElem h, reg_append]
 have : xs.getD k 0 = xs[k] := by simp [List.getD, List.getElem?_eq_getElem h]
 rw [this]; rfl
set_option maxRecDepth 100000 in
set_option maxHeartbeats 800000 in
theorem more_any (s : BitVec 32) (a : Option Addr) (n c : Nat) (xs : List Int) (w : World) (hR : Rd w a n c xs) :
  Calls Tryz.prog 157 #[.int .u32 (uw s), .slice a n c] w fun e w' => e = .returned (.int .u32 (uw (more s xs))) ∧ w' = w := by
 have hl := hR.len
 have hcp := hR.cap
 have hmx : c ≤ 9223372036854775807 := hR.most
 have hN1 := not_uw s
 have HR : Hid (Rd w a n c xs) := hR
 have HL : Hid (xs.length = n) := hl
 clear hR hl
 go_enter Tryz.func157, Tryz.ntmps157
 go_wp2_with fail
 go_loopw [5, 7, 12] (fun v f i wr => ∃ k : Nat, k ≤ n ∧ i = .int .i64 k ∧ v = .int .u32 (uw (reg (~~~ s) (xs.take k))) ∧ wr = w) (fun _ _ i _ => n - (intOf i).toNat)
 case atStart => exact ⟨0, by omega, rfl, rfl, rfl⟩
 case round =>
  obtain ⟨k, hk, rfl, rfl, hw⟩ := hrel
  replace hw := hw.symm
  subst hw
  by_cases hlt : k < n
  ·have hcl : (k : Int) < (n : Int) := by omega
   obtain ⟨b, off, rfl, hce⟩ := HR.out.flat (by omega)
   have hc1 := hce k hlt
   have hbx := HR.out.bytes.get k
   have hst := reg_take (~~~ s) xs k (by rw [HL.out]; exact hlt)
   have hxb := xor_byte (reg (~~~ s) (xs.take k)) (xs.getD k 0)
   obtain ⟨x, HX⟩ : ∃ x, Hid (xs.getD k 0 = x) := ⟨_, rfl⟩
   rw [HX.out] at hc1 hbx hst hxb
   have hx32 : x % 4294967296 = x := by omega
   have hst' : Hid (_ = _) := hst
   obtain ⟨R, HRg⟩ : ∃ R, Hid (reg (~~~ s) (xs.take k) = R) := ⟨_, rfl⟩
   rw [HRg.out] at hxb hst' ⊢
   clear hst hce hN1
   go_wp2_with (go_at_call 169; refine (shifted_any (R ^^^ byB x) _).mono ?_; rintro e w' ⟨rfl, rfl⟩)
   exact ⟨⟨k + 1, by omega, by go_num, by rw [hst'.out], trivial⟩, by simp [intOf]; omega⟩
  ·obtain rfl : k = n := by omega
   have hcl2 : ¬ (k : Int) < (k : Int) := by omega
   have ht : xs.take k = xs := List.take_of_length_le (by rw [HL.out]; omega)
   rw [ht]
   have hN2 := not_uw (reg (~~~ s) xs)
   clear ht hN1
   go_wp2
   go_ret
   exact ⟨rfl, rfl⟩
theorem sum_any (a : Option Addr) (n c : Nat) (xs : List Int) (w : World) (hR : Rd w a n c xs) :
  Calls Tryz.prog 137 #[.slice a n c] w fun e w' => e = .returned (.int .u32 (uw (more 0#32 xs))) ∧ w' = w := by
 have hM := fun u (h : Rd u a n c xs) => more_any 0#32 a n c xs u h
 go_enter Tryz.func137, Tryz.ntmps137
 go_wp2_with (go_at_call 157; refine (hM _ hR).mono ?_; rintro e w' ⟨rfl, rfl⟩)
 go_ret
 exact ⟨rfl, rfl⟩
set_option maxRecDepth 100000 in
set_option maxHeartbeats 1600000 in
theorem refMore_any (s : BitVec 32) (a : Option Addr) (n c : Nat) (xs : List Int) (w : World) (hR : Rd w a n c xs) :
  Calls Tryz.prog 148 #[.int .u32 (uw s), .slice a n c] w fun e w' => e = .returned (.int .u32 (uw (more s xs))) ∧ w' = w := by
 have hcp := hR.cap
 have hmx : c ≤ 9223372036854775807 := hR.most
 have hN1 := not_uw s
 have HL : Hid (xs.length = n) := hR.len
 have HR : Hid (Rd w a n c xs) := hR
 clear hR
 go_enter Tryz.func148, Tryz.ntmps148
 go_wp2_with fail
 go_loopw [5, 6, 7] (fun v i f wr => ∃ k : Nat, k ≤ n ∧ i = .int .i64 k ∧ v = .int .u32 (uw (reg (~~~ s) (xs.take k))) ∧ wr = w) (fun _ i _ _ => n - (intOf i).toNat)
 case atStart => exact ⟨0, by omega, rfl, rfl, rfl⟩
 case round =>
  obtain ⟨k, hk, rfl, rfl, hw⟩ := hrel
  replace hw := hw.symm
  subst hw
  by_cases hlt : k < n
  ·have hcl : (k : Int) < (n : Int) := by omega
   obtain ⟨b, off, rfl, hce⟩ := HR.out.flat (by omega)
   have hc1 := hce k hlt
   have hbx := HR.out.bytes.get k
   have hst := reg_take (~~~ s) xs k (by rw [HL.out]; exact hlt)
   have hxb := xor_byte (reg (~~~ s) (xs.take k)) (xs.getD k 0)
   obtain ⟨x, HX⟩ : ∃ x, Hid (xs.getD k 0 = x) := ⟨_, rfl⟩
   rw [HX.out] at hc1 hbx hst hxb
   have hx32 : x % 4294967296 = x := by omega
   have hst' : Hid (_ = _) := hst
   obtain ⟨R, HRg⟩ : ∃ R, Hid (reg (~~~ s) (xs.take k) = R) := ⟨_, rfl⟩
   rw [HRg.out] at hxb hst' ⊢
   clear hst hce hN1
   go_wp2_with fail
   have hr0 : R ^^^ byB x = sh (R ^^^ byB x) 0 := rfl
   go_loopw [5, 7] (fun v i w2 => ∃ j : Nat, j ≤ 8 ∧ i = .int .i64 j ∧ v = .int .u32 (uw (sh (R ^^^ byB x) j)) ∧ w2 = w) (fun _ i _ => 8 - (intOf i).toNat)
   case atStart => exact ⟨0, by omega, rfl, rfl, rfl⟩
   case round =>
    obtain ⟨j, hj, rfl, rfl, hw2⟩ := hrel
    replace hw2 := hw2.symm
    subst hw2
    clear hxb hc1 hr0
    by_cases hlt2 : j < 8
    ·have hcl3 : (j : Int) < 8 := by omega
     have hs : sh (R ^^^ byB x) (j + 1) = sb (sh (R ^^^ byB x) j) := rfl
     have ha := and_uw (sh (R ^^^ byB x) j)
     have hd := shr_uw (sh (R ^^^ byB x) j)
     have hp := poly_uw (sh (R ^^^ byB x) j >>> 1)
     cases hb : (sh (R ^^^ byB x) j).getLsbD 0 with
     | true =>
      rw [hb] at ha
      rw [sb_one hb] at hs
      have ha' : bits .and .u32 (uw (sh (R ^^^ byB x) j)) 1 = 1 := ha
      have hs' : Hid (_ = _) := hs
      clear ha hb hs
      go_wp2
      exact ⟨⟨j + 1, by omega, by go_num, by rw [hs'.out], trivial⟩, by simp [intOf]; omega⟩
     | false =>
      rw [hb] at ha
      rw [sb_nil hb] at hs
      have ha' : bits .and .u32 (uw (sh (R ^^^ byB x) j)) 1 = 0 := ha
      have hs' : Hid (_ = _) := hs
      clear ha hb hs
      go_wp2
      exact ⟨⟨j + 1, by omega, by go_num, by rw [hs'.out], trivial⟩, by simp [intOf]; omega⟩
    ·obtain rfl : j = 8 := by omega
     have hcl4 : ¬ ((8 : Nat) : Int) < 8 := by omega
     go_wp2
     exact ⟨⟨k + 1, by omega, by go_num, by rw [hst'.out], trivial⟩, by simp [intOf]; omega⟩
  ·obtain rfl : k = n := by omega
   have hcl2 : ¬ (k : Int) < (k : Int) := by omega
   have ht : xs.take k = xs := List.take_of_length_le (by rw [HL.out]; omega)
   rw [ht]
   have hN2 := not_uw (reg (~~~ s) xs)
   clear ht hN1
   go_wp2
   go_ret
   exact ⟨rfl, rfl⟩
theorem refSum_any (a : Option Addr) (n c : Nat) (xs : List Int) (w : World) (hR : Rd w a n c xs) :
  Calls Tryz.prog 122 #[.slice a n c] w fun e w' => e = .returned (.int .u32 (uw (more 0#32 xs))) ∧ w' = w := by
 have hM := fun u (h : Rd u a n c xs) => refMore_any 0#32 a n c xs u h
 go_enter Tryz.func122, Tryz.ntmps122
 go_wp2_with (go_at_call 148; refine (hM _ hR).mono ?_; rintro e w' ⟨rfl, rfl⟩)
 go_ret
 exact ⟨rfl, rfl⟩
end Go.Proofs.YtikkieaokfailaaGreatDoor

namespace Go.Proofs.YtikkieaokfailaaGreatDoor
open Go.RowKit Go.Joins
def bigL (s n : Nat) : List Int := (List.range s).map fun i => ((n / 256 ^ (s - 1 - i) % 256 : Nat) : Int)
theorem bigL_len (s n : Nat) : (bigL s n).length = s := by simp [bigL]
theorem bigL_bd (s n : Nat) : Bd (bigL s n) := by
 intro x hx
 obtain ⟨i, _, rfl⟩ := List.mem_map.1 hx
 have : n / 256 ^ (s - 1 - i) % 256 < 256 := Nat.mod_lt _ (by decide)
 omega
theorem big4 (n : Nat) : bigL 4 n = [(n : Int) / 16777216 % 256, (n : Int) / 65536 % 256, (n : Int) / 256 % 256, (n : Int) % 256] := by
 have e : bigL 4 n = [((n / 256 ^ 3 % 256 : Nat) : Int), ((n / 256 ^ 2 % 256 : Nat) : Int), ((n / 256 ^ 1 % 256 : Nat) : Int), ((n / 256 ^ 0 % 256 : Nat) : Int)] := rfl
 rw [e]
 simp only [List.cons.injEq, and_true]
 refine ⟨?_, ?_, ?_, ?_⟩ <;> omega
set_option maxRecDepth 100000 in
set_option maxHeartbeats 2000000 in
theorem put4_any (B : Nat) (v : Value) (m : Nat) (xs : List Int) (n : Nat) (hm : m ≤ 2000000) (w : World) (hB : B ≤ w.heap.size) (hown : w.ownsRow B 5 1 v m (bc xs)) :
  Calls Tryz.prog 136 #[v, .int .u64 (n : Int), .int .i64 4] w fun e w' => ∃ v', e = .returned v' ∧ w'.ownsRow B 5 1 v' (m + 4) (bc (xs ++ bigL 4 n)) ∧ Below B w w' := by
 have HE : Hid (bigL 4 n = [(n : Int) / 16777216 % 256, (n : Int) / 65536 % 256, (n : Int) / 256 % 256, (n : Int) % 256]) := big4 n
 have l0 : 0 ≤ (n : Int) / 16777216 % 256 ∧ (n : Int) / 16777216 % 256 ≤ 255 := by omega
 have l1 : 0 ≤ (n : Int) / 65536 % 256 ∧ (n : Int) / 65536 % 256 ≤ 255 := by omega
 have l2 : 0 ≤ (n : Int) / 256 % 256 ∧ (n : Int) / 256 % 256 ≤ 255 := by omega
 have l3 : 0 ≤ (n : Int) % 256 ∧ (n : Int) % 256 ≤ 255 := by omega
 have hb0 : Below B w w := Below.refl _ _
 go_enter Tryz.func136, Tryz.ntmps136
 go_wp2_with fail
 refine wp_loop_rounds 5 ?_
 rw [rounds_succ]
 go_wp2_with (at_builtin; refine wp_app1K (wr := w) rfl _ _ rfl B v (m + 0) (xs) rfl hown ((n : Int) / 16777216 % 256) l0.1 l0.2 rfl (by omega) (Nat.le_trans hB hb0.size) ?_; intro v1 w1 o1 b1)
 have hb1 := hb0.trans b1
 rw [rounds_succ]
 go_wp2_with (at_builtin; refine wp_app1K (wr := w1) rfl _ _ rfl B v1 (m + 1) (xs ++ [(n : Int) / 16777216 % 256]) rfl o1 ((n : Int) / 65536 % 256) l1.1 l1.2 rfl (by omega) (Nat.le_trans hB hb1.size) ?_; intro v2 w2 o2 b2)
 have hb2 := hb1.trans b2
 rw [rounds_succ]
 go_wp2_with (at_builtin; refine wp_app1K (wr := w2) rfl _ _ rfl B v2 (m + 2) ((xs ++ [(n : Int) / 16777216 % 256]) ++ [(n : Int) / 65536 % 256]) rfl o2 ((n : Int) / 256 % 256) l2.1 l2.2 rfl (by omega) (Nat.le_trans hB hb2.size) ?_; intro v3 w3 o3 b3)
 have hb3 := hb2.trans b3
 rw [rounds_succ]
 go_wp2_with (at_builtin; refine wp_app1K (wr := w3) rfl _ _ rfl B v3 (m + 3) (((xs ++ [(n : Int) / 16777216 % 256]) ++ [(n : Int) / 65536 % 256]) ++ [(n : Int) / 256 % 256]) rfl o3 ((n : Int) % 256) l3.1 l3.2 rfl (by omega) (Nat.le_trans hB hb3.size) ?_; intro v4 w4 o4 b4)
 have hb4 := hb3.trans b4
 rw [rounds_succ]
 go_wp2
 go_ret
 refine ⟨_, rfl, ?_, hb4⟩
 rw [HE.out]
 simpa [List.append_assoc, Nat.add_assoc] using o4
theorem big8 (n : Nat) : bigL 8 n = [(n : Int) / 72057594037927936 % 256, (n : Int) / 281474976710656 % 256, (n : Int) / 1099511627776 % 256, (n : Int) / 4294967296 % 256, (n : Int) / 16777216 % 256, (n : Int) / 65536 % 256, (n : Int) / 256 % 256, (n : Int) % 256] := by
 have e : bigL 8 n = [((n / 256 ^ 7 % 256 : Nat) : Int), ((n / 256 ^ 6 % 256 : Nat) : Int), ((n / 256 ^ 5 % 256 : Nat) : Int), ((n / 256 ^ 4 % 256 : Nat) : Int), ((n / 256 ^ 3 % 256 : Nat) : Int), ((n / 256 ^ 2 % 256 : Nat) : Int), ((n / 256 ^ 1 % 256 : Nat) : Int), ((n / 256 ^ 0 % 256 : Nat) : Int)] := rfl
 rw [e]
 simp only [List.cons.injEq, and_true]
 refine ⟨?_, ?_, ?_, ?_, ?_, ?_, ?_, ?_⟩ <;> omega
set_option maxRecDepth 100000 in
set_option maxHeartbeats 2000000 in
theorem put8_any (B : Nat) (v : Value) (m : Nat) (xs : List Int) (n : Nat) (hm : m ≤ 2000000) (w : World) (hB : B ≤ w.heap.size) (hown : w.ownsRow B 5 1 v m (bc xs)) :
  Calls Tryz.prog 136 #[v, .int .u64 (n : Int), .int .i64 8] w fun e w' => ∃ v', e = .returned v' ∧ w'.ownsRow B 5 1 v' (m + 8) (bc (xs ++ bigL 8 n)) ∧ Below B w w' := by
 have HE : Hid (bigL 8 n = [(n : Int) / 72057594037927936 % 256, (n : Int) / 281474976710656 % 256, (n : Int) / 1099511627776 % 256, (n : Int) / 4294967296 % 256, (n : Int) / 16777216 % 256, (n : Int) / 65536 % 256, (n : Int) / 256 % 256, (n : Int) % 256]) := big8 n
 have l0 : 0 ≤ (n : Int) / 72057594037927936 % 256 ∧ (n : Int) / 72057594037927936 % 256 ≤ 255 := by omega
 have l1 : 0 ≤ (n : Int) / 281474976710656 % 256 ∧ (n : Int) / 281474976710656 % 256 ≤ 255 := by omega
 have l2 : 0 ≤ (n : Int) / 1099511627776 % 256 ∧ (n : Int) / 1099511627776 % 256 ≤ 255 := by omega
 have l3 : 0 ≤ (n : Int) / 4294967296 % 256 ∧ (n : Int) / 4294967296 % 256 ≤ 255 := by omega
 have l4 : 0 ≤ (n : Int) / 16777216 % 256 ∧ (n : Int) / 16777216 % 256 ≤ 255 := by omega
 have l5 : 0 ≤ (n : Int) / 65536 % 256 ∧ (n : Int) / 65536 % 256 ≤ 255 := by omega
 have l6 : 0 ≤ (n : Int) / 256 % 256 ∧ (n : Int) / 256 % 256 ≤ 255 := by omega
 have l7 : 0 ≤ (n : Int) % 256 ∧ (n : Int) % 256 ≤ 255 := by omega
 have hb0 : Below B w w := Below.refl _ _
 go_enter Tryz.func136, Tryz.ntmps136
 go_wp2_with fail
 refine wp_loop_rounds 9 ?_
 rw [rounds_succ]
 go_wp2_with (at_builtin; refine wp_app1K (wr := w) rfl _ _ rfl B v (m + 0) (xs) rfl hown ((n : Int) / 72057594037927936 % 256) l0.1 l0.2 rfl (by omega) (Nat.le_trans hB hb0.size) ?_; intro v1 w1 o1 b1)
 have hb1 := hb0.trans b1
 rw [rounds_succ]
 go_wp2_with (at_builtin; refine wp_app1K (wr := w1) rfl _ _ rfl B v1 (m + 1) (xs ++ [(n : Int) / 72057594037927936 % 256]) rfl o1 ((n : Int) / 281474976710656 % 256) l1.1 l1.2 rfl (by omega) (Nat.le_trans hB hb1.size) ?_; intro v2 w2 o2 b2)
 have hb2 := hb1.trans b2
 rw [rounds_succ]
 go_wp2_with (at_builtin; refine wp_app1K (wr := w2) rfl _ _ rfl B v2 (m + 2) ((xs ++ [(n : Int) / 72057594037927936 % 256]) ++ [(n : Int) / 281474976710656 % 256]) rfl o2 ((n : Int) / 1099511627776 % 256) l2.1 l2.2 rfl (by omega) (Nat.le_trans hB hb2.size) ?_; intro v3 w3 o3 b3)
 have hb3 := hb2.trans b3
 rw [rounds_succ]
 go_wp2_with (at_builtin; refine wp_app1K (wr := w3) rfl _ _ rfl B v3 (m + 3) (((xs ++ [(n : Int) / 72057594037927936 % 256]) ++ [(n : Int) / 281474976710656 % 256]) ++ [(n : Int) / 1099511627776 % 256]) rfl o3 ((n : Int) / 4294967296 % 256) l3.1 l3.2 rfl (by omega) (Nat.le_trans hB hb3.size) ?_; intro v4 w4 o4 b4)
 have hb4 := hb3.trans b4
 rw [rounds_succ]
 go_wp2_with (at_builtin; refine wp_app1K (wr := w4) rfl _ _ rfl B v4 (m + 4) ((((xs ++ [(n : Int) / 72057594037927936 % 256]) ++ [(n : Int) / 281474976710656 % 256]) ++ [(n : Int) / 1099511627776 % 256]) ++ [(n : Int) / 4294967296 % 256]) rfl o4 ((n : Int) / 16777216 % 256) l4.1 l4.2 rfl (by omega) (Nat.le_trans hB hb4.size) ?_; intro v5 w5 o5 b5)
 have hb5 := hb4.trans b5
 rw [rounds_succ]
 go_wp2_with (at_builtin; refine wp_app1K (wr := w5) rfl _ _ rfl B v5 (m + 5) (((((xs ++ [(n : Int) / 72057594037927936 % 256]) ++ [(n : Int) / 281474976710656 % 256]) ++ [(n : Int) / 1099511627776 % 256]) ++ [(n : Int) / 4294967296 % 256]) ++ [(n : Int) / 16777216 % 256]) rfl o5 ((n : Int) / 65536 % 256) l5.1 l5.2 rfl (by omega) (Nat.le_trans hB hb5.size) ?_; intro v6 w6 o6 b6)
 have hb6 := hb5.trans b6
 rw [rounds_succ]
 go_wp2_with (at_builtin; refine wp_app1K (wr := w6) rfl _ _ rfl B v6 (m + 6) ((((((xs ++ [(n : Int) / 72057594037927936 % 256]) ++ [(n : Int) / 281474976710656 % 256]) ++ [(n : Int) / 1099511627776 % 256]) ++ [(n : Int) / 4294967296 % 256]) ++ [(n : Int) / 16777216 % 256]) ++ [(n : Int) / 65536 % 256]) rfl o6 ((n : Int) / 256 % 256) l6.1 l6.2 rfl (by omega) (Nat.le_trans hB hb6.size) ?_; intro v7 w7 o7 b7)
 have hb7 := hb6.trans b7
 rw [rounds_succ]
 go_wp2_with (at_builtin; refine wp_app1K (wr := w7) rfl _ _ rfl B v7 (m + 7) (((((((xs ++ [(n : Int) / 72057594037927936 % 256]) ++ [(n : Int) / 281474976710656 % 256]) ++ [(n : Int) / 1099511627776 % 256]) ++ [(n : Int) / 4294967296 % 256]) ++ [(n : Int) / 16777216 % 256]) ++ [(n : Int) / 65536 % 256]) ++ [(n : Int) / 256 % 256]) rfl o7 ((n : Int) % 256) l7.1 l7.2 rfl (by omega) (Nat.le_trans hB hb7.size) ?_; intro v8 w8 o8 b8)
 have hb8 := hb7.trans b8
 rw [rounds_succ]
 go_wp2
 go_ret
 refine ⟨_, rfl, ?_, hb8⟩
 rw [HE.out]
 simpa [List.append_assoc, Nat.add_assoc] using o8
def numK (xs : List Int) : Nat → Nat
 | 0 => 0
 | k + 1 => numK xs k * 256 + (xs.getD k 0).toNat
def numL (xs : List Int) : Nat := numK xs xs.length
theorem numK_lt {xs : List Int} (hb : Bd xs) : ∀ k, numK xs k < 256 ^ k
 | 0 => by simp [numK]
 | k + 1 => by
  have h1 := numK_lt hb k
  have h2 : (xs.getD k 0).toNat < 256 := by have := hb.get k; omega
  show numK xs k * 256 + _ < 256 ^ (k + 1)
  rw [Nat.pow_succ]
  omega
theorem or_beN {acc : Nat} {z : Int} (h0 : 0 ≤ z) (h1 : z ≤ 255) (ha : acc < 72057594037927936) : bits .or .u64 ((acc : Int) * 256) z = ((acc * 256 + z.toNat : Nat) : Int) := by
 obtain ⟨d, rfl, hd⟩ : ∃ d : Nat, z = (d : Int) ∧ d < 256 := ⟨z.toNat, by omega, by omega⟩
 have e1 : ((acc : Int) * 256) = ((acc * 256 : Nat) : Int) := by omega
 rw [e1, bits_or_u64_nat _ _ (by omega) (by omega)]
 congr 1
 have e2 : acc * 256 = acc <<< 8 := by rw [Nat.shiftLeft_eq]
 rw [e2, ← Nat.shiftLeft_add_eq_or_of_lt (show d < 2 ^ 8 by omega)]
 simp
set_option maxHeartbeats 800000 in
theorem number_any (a : Option Addr) (n c : Nat) (xs : List Int) (w : World) (hR : Rd w a n c xs) (h8 : n ≤ 8) :
  Calls Tryz.prog 130 #[.slice a n c] w fun e w' => e = .returned (.int .u64 (numL xs : Nat)) ∧ w' = w := by
 have hl := hR.len
 have hcp := hR.cap
 have hmx : c ≤ 9223372036854775807 := hR.most
 have HL : Hid (numL xs = numK xs n) := by show numL xs = numK xs n; unfold numL; rw [hl]
 rw [HL.out]
 clear hl
 go_enter Tryz.func130, Tryz.ntmps130
 go_wp2
 go_loop [2, 4, 7] (fun s _ i => ∃ k : Nat, k ≤ n ∧ i = .int .i64 k ∧ s = .int .u64 (numK xs k)) (fun _ _ i => n - (intOf i).toNat)
 case atStart => exact ⟨0, by omega, rfl, rfl⟩
 case round =>
  obtain ⟨k, hk, rfl, rfl⟩ := hrel
  by_cases hlt : k < n
  ·have hlz : (k : Int) < (n : Int) := by omega
   have hk0 : (0 : Int) ≤ (k : Int) := by omega
   have hb := hR.bytes.get k
   have hlt2 := numK_lt hR.bytes k
   have hpow : 256 ^ k ≤ 72057594037927936 := by
    have : 256 ^ k ≤ 256 ^ 7 := Nat.pow_le_pow_right (by omega) (by omega)
    simpa using this
   obtain ⟨ad, rfl⟩ : ∃ ad, a = some ad := by
    cases a with
    | none => have := hR.nil rfl; omega
    | some ad => exact ⟨ad, rfl⟩
   have hc1 := hR.cells _ rfl k hlt
   obtain ⟨z, hz⟩ : ∃ z, xs.getD k 0 = z := ⟨_, rfl⟩
   have HB : Hid (numK xs (k + 1) = numK xs k * 256 + z.toNat) := by rw [← hz]; exact rfl
   rw [hz] at hb hc1
   have ho := or_beN (acc := numK xs k) hb.1 hb.2 (by omega)
   have hbk : ((numK xs k : Nat) : Int) < 72057594037927936 := by omega
   clear hz hpow hlt2
   go_wp2
   go_round
   case rel => exact ⟨k + 1, by omega, by go_num, by rw [HB.out]; congr 1; omega⟩
   case measure => simp [intOf]; omega
  ·obtain rfl : k = n := by omega
   have hlz : ¬ (k : Int) < (k : Int) := by omega
   go_wp2
   go_ret
   exact ⟨rfl, rfl⟩
theorem mk0N (w : World) (M : Nat) (hM : M ≤ 100000000) : ∃ w', (Instr.makeSlice 29 (.int .i64 0) (.int .i64 M)).run Tryz.prog w = .ok (.slice (some ⟨w.heap.size, 0, none⟩) 0 M) w' ∧ w'.ownsRow w.heap.size 5 1 (.slice (some ⟨w.heap.size, 0, none⟩) 0 M) 0 (bc []) ∧ Below w.heap.size w w' := by
 obtain ⟨i0, hi, hz0, hz1, hz2⟩ := info_parts Tryz.info5
 obtain ⟨w', h1, h2, h3⟩ := run_make_own w w.heap.size 29 5 i0 (.int .u8 0) 1 Tryz.underlying29 hi hz0 hz1 .i64 .i64 M (by rw [hz2]; omega) (by unfold maxLen; omega) (Nat.le_refl _)
 exact ⟨w', h1, h2, (Below.refl _ _).grown h3 (Nat.le_refl _) (fun k hk => by cases hk)⟩
def crcN (xs : List Int) : Nat := (more 0#32 xs).toNat
theorem crcN_lt (xs : List Int) : crcN xs < 4294967296 := (more 0#32 xs).isLt
theorem sumN_any (a : Option Addr) (n c : Nat) (xs : List Int) (w : World) (hR : Rd w a n c xs) :
  Calls Tryz.prog 137 #[.slice a n c] w fun e w' => e = .returned (.int .u32 ((crcN xs : Nat) : Int)) ∧ w' = w := sum_any a n c xs w hR
def formL (xs : List Int) : List Int := bigL 4 xs.length ++ bigL 4 (crcN xs) ++ xs
theorem formL_len (xs : List Int) : (formL xs).length = 8 + xs.length := by
 unfold formL
 rw [List.length_append, List.length_append, bigL_len, bigL_len]
set_option maxHeartbeats 1000000 in
theorem form_any (a : Option Addr) (n c : Nat) (xs : List Int) (w : World) (hR : Rd w a n c xs) (hn : n ≤ 1048576) :
  Calls Tryz.prog 101 #[.slice a n c] w fun e w' => ∃ v', e = .returned v' ∧ w'.ownsRow w.heap.size 5 1 v' (8 + n) (bc (formL xs)) ∧ Below w.heap.size w w' := by
 have hl := hR.len
 obtain ⟨w1, hmk, ho1, hb1⟩ := mk0N w (8 + n) (by omega)
 have hn8 : ((8 + n : Nat) : Int) = 8 + (n : Int) := by omega
 rw [hn8] at hmk
 have hS := fun w' (hb : Below w.heap.size w w') => sumN_any a n c xs w' (hR.carry (Nat.le_refl _) hb)
 have hlt := crcN_lt xs
 have HF : Hid (formL xs = bigL 4 n ++ bigL 4 (crcN xs) ++ xs) := by show formL xs = _; unfold formL; rw [hl]
 rw [HF.out]
 obtain ⟨S, HS⟩ : ∃ S, Hid (crcN xs = S) := ⟨_, rfl⟩
 rw [HS.out] at hlt ⊢
 simp only [HS.out] at hS
 have hz1 : (n : Int) ≤ 1048576 := by omega
 have hz2 : (S : Int) < 4294967296 := by omega
 have tk : True := trivial
 clear hn8 hl HF
 go_enter Tryz.func101, Tryz.ntmps101
 go_wp2_with (first
  | (clear tk; go_at_call 136; refine (put4_any w.heap.size _ 0 [] n (by omega) w1 hb1.size ho1).mono ?_; rintro e w2 ⟨v2, rfl, o2, b2⟩; have hb2 := hb1.trans b2; rw [Nat.zero_add, List.nil_append] at o2)
  | (go_at_call 137; refine (hS w2 hb2).mono ?_; rintro e w3 ⟨rfl, h3⟩; replace h3 := h3.symm; subst h3)
  | (go_at_call 136; refine (put4_any w.heap.size v2 4 (bigL 4 n) S (by omega) w2 hb2.size o2).mono ?_; rintro e w4 ⟨v4, rfl, o4, b4⟩; have hb4 := hb2.trans b4)
  | (at_builtin; refine wp_appK rfl _ _ rfl w.heap.size v4 (4 + 4) (bigL 4 n ++ bigL 4 S) rfl o4 a n c xs rfl (hR.carry (Nat.le_refl _) hb4) (by omega) hb4.size ?_; intro v5 w5 o5 g5 _))
 go_ret
 have hb5 := hb4.grown g5 hb4.size (fun k hk => (o4.lt k hk).1)
 first
  | exact ⟨_, rfl, o5, hb5⟩
  | exact ⟨o5, hb5⟩ | exact ⟨_, o5, hb5⟩ | trace_state
def baseL (g : Nat) : List Int := bigL 8 g ++ bigL 4 (crcN (bigL 8 g))
theorem baseL_len (g : Nat) : (baseL g).length = 12 := by unfold baseL; rw [List.length_append, bigL_len, bigL_len]
set_option maxHeartbeats 1000000 in
theorem baseForm_any (g : Nat) (w : World) :
  Calls Tryz.prog 114 #[.int .u64 (g : Int)] w fun e w' => ∃ v', e = .returned v' ∧ w'.ownsRow w.heap.size 5 1 v' 12 (bc (baseL g)) ∧ Below w.heap.size w w' := by
 have h0 : w.ownsRow w.heap.size 5 1 (.slice none 0 0) 0 (bc []) := ⟨rfl, .inl ⟨rfl, rfl⟩⟩
 have hlt := crcN_lt (bigL 8 g)
 have HF : Hid (baseL g = bigL 8 g ++ bigL 4 (crcN (bigL 8 g))) := rfl
 rw [HF.out]
 have hS := fun a n c w' (h : Rd w' a n c (bigL 8 g)) => sumN_any a n c (bigL 8 g) w' h
 obtain ⟨S, HS⟩ : ∃ S, Hid (crcN (bigL 8 g) = S) := ⟨_, rfl⟩
 rw [HS.out] at hlt ⊢
 simp only [HS.out] at hS
 have hz2 : (S : Int) < 4294967296 := by omega
 have tk : True := trivial
 clear HF
 go_enter Tryz.func114, Tryz.ntmps114
 go_wp2_with (first
  | (clear tk; go_at_call 136; refine (put8_any w.heap.size _ 0 [] g (by omega) w (Nat.le_refl _) h0).mono ?_; rintro e w2 ⟨v2, rfl, o2, b2⟩; rw [Nat.zero_add, List.nil_append] at o2; obtain ⟨a2, c2, rfl, r2⟩ := Rd.ofOwn o2 (bigL_bd 8 g); skip)
  | (go_at_call 137; refine (hS a2 _ c2 w2 r2).mono ?_; rintro e w3 ⟨rfl, h3⟩; replace h3 := h3.symm; subst h3)
  | (go_at_call 136; refine (put4_any w.heap.size _ 8 (bigL 8 g) S (by omega) w2 b2.size o2).mono ?_; rintro e w4 ⟨v4, rfl, o4, b4⟩))
 go_ret
 first
  | exact ⟨_, rfl, o4, b2.trans b4⟩
  | exact ⟨o4, b2.trans b4⟩ | exact ⟨_, o4, b2.trans b4⟩ | trace_state
def recO (xs : List Int) : Option (List Int) :=
 if xs.length < 8 then none
 else if numL (xs.take 4) > 1048576 ∨ numL (xs.take 4) > xs.length - 8 then none
 else if crcN ((xs.drop 8).take (numL (xs.take 4))) = numL ((xs.drop 4).take 4) then some ((xs.drop 8).take (numL (xs.take 4)))
 else none
theorem numL_lt4 {xs : List Int} (hb : Bd xs) (h : xs.length ≤ 4) : numL xs < 4294967296 := by
 have h1 := numK_lt hb xs.length
 have h2 : 256 ^ xs.length ≤ 256 ^ 4 := Nat.pow_le_pow_right (by omega) h
 have h3 : (256 : Nat) ^ 4 = 4294967296 := by decide
 unfold numL
 omega
theorem Rd.dropN {w : World} {b off n c : Nat} {xs : List Int} (h : Rd w (some ⟨b, off, none⟩) n c xs) {k : Nat} (hk : k ≤ n) : Rd w (some ⟨b, off + k, none⟩) (n - k) (c - k) (xs.drop k) := by
 have hl := h.len
 have hc := h.cap
 have hm := h.most
 refine ⟨by rw [List.length_drop]; omega, by omega, by omega, (fun e => by cases e), fun x hx => h.bytes x (List.mem_of_mem_drop hx), fun ad had j hj => ?_⟩
 cases had
 have h1 := h.cells _ rfl (k + j) (by omega)
 rw [add_flat] at h1 ⊢
 rw [← Nat.add_assoc] at h1
 rw [h1]
 simp [List.getD, List.getElem?_drop]
end Go.Proofs.YtikkieaokfailaaGreatDoor

namespace Go.Proofs.YtikkieaokfailaaGreatDoor
open Go.RowKit Go.Joins
theorem Rd.take4 {w : World} {a : Option Addr} {n c : Nat} {xs : List Int} (h : Rd w a n c xs) {k : Nat} (hk : k ≤ n) : Rd w a k c (xs.take k) := h.takeK hk
theorem recO_small {xs : List Int} (h : xs.length < 8) : recO xs = none := by unfold recO; rw [if_pos h]
theorem recO_big {xs : List Int} (h : ¬ xs.length < 8) (h2 : numL (xs.take 4) > 1048576 ∨ numL (xs.take 4) > xs.length - 8) : recO xs = none := by unfold recO; rw [if_neg h, if_pos h2]
theorem recO_sum {xs : List Int} (h : ¬ xs.length < 8) (h2 : ¬ (numL (xs.take 4) > 1048576 ∨ numL (xs.take 4) > xs.length - 8)) : recO xs = if crcN ((xs.drop 8).take (numL (xs.take 4))) = numL ((xs.drop 4).take 4) then some ((xs.drop 8).take (numL (xs.take 4))) else none := by unfold recO; rw [if_neg h, if_neg h2]
theorem behind8 (b off n c : Nat) (hn : 8 ≤ n) (hc : n ≤ c) (hc2 : c ≤ 9223372036854775807) : ∃ o8, (∀ W, (Instr.sliceAt 29 (.slice (some ⟨b, off, none⟩) n c) (some (.int .i64 8)) none none).run Tryz.prog W = .ok (.slice (some ⟨b, o8, none⟩) (n - 8) (c - 8)) W) ∧ (∀ (w : World) (xs : List Int), Rd w (some ⟨b, off, none⟩) n c xs → Rd w (some ⟨b, o8, none⟩) (n - 8) (c - 8) (xs.drop 8)) := by
 have h1 : (8 : Int) ≤ (n : Int) := by omega
 have h2 : (n : Int) ≤ (c : Int) := by omega
 by_cases h8 : c = 8
 ·subst h8
  obtain rfl : n = 8 := by omega
  refine ⟨off, fun W => ?_, fun w xs h => ?_⟩
  ·go_simp
  ·have hl := h.len
   rw [List.drop_eq_nil_of_le (by omega)]
   exact ⟨rfl, Nat.le_refl _, by unfold maxLen; omega, (fun e => by cases e), Bd.nil, fun _ _ j hj => by omega⟩
 ·refine ⟨off + 8, fun W => ?_, fun w xs h => h.dropN hn⟩
  have h3 : ¬ (8 : Int) = (c : Int) := by omega
  have h4 : ¬ (c : Int) = 8 := by omega
  have h5 : ¬ (8 : Nat) = c := by omega
  go_simp
def Rec1 (w : World) (xs : List Int) (e : Ending) : Prop := match recO xs with
 | none => ∃ v, e = .returned (.tuple #[v, .bool false])
 | some r => ∃ a' c', e = .returned (.tuple #[.slice a' r.length c', .bool true]) ∧ Rd w a' r.length c' r
set_option maxHeartbeats 2000000 in
theorem record_any (b off n c : Nat) (xs : List Int) (w : World) (hR : Rd w (some ⟨b, off, none⟩) n c xs) (hn9 : n ≤ 1000000000) :
  Calls Tryz.prog 154 #[.slice (some ⟨b, off, none⟩) n c] w fun e w' => Rec1 w xs e ∧ Below w.heap.size w w' := by
 have hl := hR.len
 have hcp := hR.cap
 have hmx : c ≤ 9223372036854775807 := hR.most
 by_cases h8 : n < 8
 ·have hE : recO xs = none := recO_small (by omega)
  have HR : ∀ e, Rec1 w xs e = ∃ v, e = .returned (.tuple #[v, .bool false]) := fun e => by unfold Rec1; rw [hE]
  simp only [HR]
  have hz : (n : Int) < 8 := by omega
  clear HR hE hl
  go_enter Tryz.func154, Tryz.ntmps154
  go_wp2
  go_ret2
  exact ⟨⟨_, rfl⟩, Below.refl _ _⟩
 ·have hz : ¬ (n : Int) < 8 := by omega
  have hz4 : (4 : Int) ≤ (c : Int) := by omega
  have hz8 : (8 : Int) ≤ (c : Int) := by omega
  have hzn : (8 : Int) ≤ (n : Int) := by omega
  have hc4 : ¬ c = 4 := by omega
  have hnc : (n : Int) ≤ (c : Int) := by omega
  obtain ⟨o8, hsl, hrd8⟩ := behind8 b off n c (by omega) hcp hmx
  have hr1 : Rd w (some ⟨b, off, none⟩) 4 c (xs.take 4) := hR.take4 (by omega)
  have hr2 : Rd w (some ⟨b, off + 4, none⟩) 4 (c - 4) ((xs.drop 4).take 4) := (hR.dropN (k := 4) (by omega)).take4 (by omega)
  have hr3 := hrd8 w xs hR
  have hK := numL_lt4 hr1.bytes (by rw [hr1.len]; omega)
  have hS4 := numL_lt4 hr2.bytes (by rw [hr2.len]; omega)
  have hn1 := fun w' (hb : Below w.heap.size w w') => number_any _ 4 c (xs.take 4) w' (hr1.carry (Nat.le_refl _) hb) (by omega)
  have hn2 := fun w' (hb : Below w.heap.size w w') => number_any _ 4 (c - 4) ((xs.drop 4).take 4) w' (hr2.carry (Nat.le_refl _) hb) (by omega)
  have hbig : numL (xs.take 4) > 1048576 ∨ numL (xs.take 4) > xs.length - 8 → recO xs = none := fun h => recO_big (by omega) h
  have hsum := fun h => recO_sum (xs := xs) (by omega) h
  rw [hl] at hbig hsum
  obtain ⟨K, HK⟩ : ∃ K, Hid (numL (xs.take 4) = K) := ⟨_, rfl⟩
  obtain ⟨S, HS⟩ : ∃ S, Hid (numL ((xs.drop 4).take 4) = S) := ⟨_, rfl⟩
  simp only [HK.out] at hK hn1 hbig hsum
  simp only [HS.out] at hS4 hn2 hsum
  clear hrd8 hr1 hr2
  have HW : Below w.heap.size w w.drew := (Below.refl _ _).drew
  by_cases hbg : K > 1048576 ∨ K > n - 8
  ·have hE := hbig hbg
   have HR : ∀ e, Rec1 w xs e = ∃ v, e = .returned (.tuple #[v, .bool false]) := fun e => by unfold Rec1; rw [hE]
   simp only [HR]
   clear HR hE hbig hsum hl
   go_enter Tryz.func154, Tryz.ntmps154
   go_upto_region 3 with fail
   refine wp_region_lx (fun w' => w' = w.drew) [] 11 (by kernel_rfl) (by kernel_rfl) ?_
   have HSx : w.drew = w.drew := rfl
   refine lx_r 0 _ HSx ?_; simp only [lxa, lxb, lxc]
   refine lx_r 1 (.slice (some ⟨b, off, none⟩) 4 c) HSx ?_; simp only [lxa, lxb, lxc]
   refine lx_r 3 _ HSx ?_; simp only [lxa, lxb, lxc]
   refine lx_r 4 (.slice (some ⟨b, off + 4, none⟩) 4 (c - 4)) HSx ?_; simp only [lxa, lxb, lxc]
   refine lx_r 6 _ HSx ?_; simp only [lxa, lxb, lxc]
   refine lx_r 7 (.slice (some ⟨b, o8, none⟩) (n - 8) (c - 8)) HSx ?_; simp only [lxa, lxb, lxc]
   refine lx_one 2 (by kernel_rfl) (stepT_call 130 ?a2x1 rfl rfl rfl ?r2x1 ?_)
   case r2x1 => first | (go_simp; rfl) | go_simp
   refine (hn1 _ HW).mono ?_
   rintro e w1 ⟨rfl, h1w⟩
   replace h1w := h1w.symm
   subst h1w
   refine ⟨_, rfl, fun _ => rfl, ?_⟩
   simp only [lxa, lxb, lxc]
   refine lx_one 5 (by kernel_rfl) (stepT_call 130 ?a5x1 rfl rfl rfl ?r5x1 ?_)
   case r5x1 => first | (go_simp; rfl) | go_simp
   refine (hn2 _ HW).mono ?_
   rintro e w1 ⟨rfl, h1w⟩
   replace h1w := h1w.symm
   subst h1w
   refine ⟨_, rfl, fun _ => rfl, ?_⟩
   simp only [lxa, lxb, lxc]
   refine lx_r 8 _ HSx ?_; simp only [lxa, lxb, lxc]
   refine lx_r 9 _ HSx ?_; simp only [lxa, lxb, lxc]
   refine lx_r 10 _ HSx ?_; simp only [lxa, lxb, lxc]
   refine lx_nil (by kernel_rfl) ?_
   have hi1 : ((n - 8 : Nat) : Int) = (n : Int) - 8 := by omega
   by_cases h1 : (1048576 : Int) < (K : Int)
   ·go_wp2
    go_ret2
    exact ⟨⟨_, rfl⟩, HW⟩
   ·have h2 : ((n - 8 : Nat) : Int) < (K : Int) := by omega
    have h2' : (n : Int) - 8 < (K : Int) := by omega
    go_wp2
    go_ret2
    exact ⟨⟨_, rfl⟩, HW⟩
  ·have hE := hsum hbg
   have h1 : ¬ (1048576 : Int) < (K : Int) := by omega
   have h2 : ¬ ((n - 8 : Nat) : Int) < (K : Int) := by omega
   have hi1 : ((n - 8 : Nat) : Int) = (n : Int) - 8 := by omega
   have h2' : ¬ (n : Int) - 8 < (K : Int) := by omega
   have hKn : K ≤ n - 8 := by omega
   have hr4 := hr3.take4 hKn
   have hSm := fun w' (hb : Below w.heap.size w w') => sumN_any _ K (c - 8) ((xs.drop 8).take K) w' (hr4.carry (Nat.le_refl _) hb)
   have hCl := crcN_lt ((xs.drop 8).take K)
   obtain ⟨T, HT⟩ : ∃ T, Hid ((xs.drop 8).take K = T) := ⟨_, rfl⟩
   rw [HT.out] at hr4 hE hCl
   simp only [HT.out] at hSm
   obtain ⟨C, HC⟩ : ∃ C, Hid (crcN T = C) := ⟨_, rfl⟩
   rw [HC.out] at hE hCl
   simp only [HC.out] at hSm
   have hCz : (C : Int) < 4294967296 := by omega
   have hKc : (K : Int) ≤ ((c - 8 : Nat) : Int) := by omega
   have hKc2 : (K : Int) ≤ (c : Int) - 8 := by omega
   have hTl : T.length = K := hr4.len
   have HR : ∀ e, Rec1 w xs e = match (if C = S then some T else none) with
     | none => ∃ v, e = .returned (.tuple #[v, .bool false])
     | some r => ∃ a' c', e = .returned (.tuple #[.slice a' r.length c', .bool true]) ∧ Rd w a' r.length c' r := fun e => by unfold Rec1; rw [hE]
   simp only [HR]
   clear HR hE hbig hsum hbg hl
   have Hr4 : Hid (Rd w (some ⟨b, o8, none⟩) K (c - 8) T) := hr4
   clear hr4
   by_cases hCS : C = S
   ·subst hCS
    rw [if_pos rfl]
    go_enter Tryz.func154, Tryz.ntmps154
    go_upto_region 3 with fail
    refine wp_region_lx (fun w' => w' = w.drew) [] 11 (by kernel_rfl) (by kernel_rfl) ?_
    have HSx : w.drew = w.drew := rfl
    refine lx_r 0 _ HSx ?_; simp only [lxa, lxb, lxc]
    refine lx_r 1 (.slice (some ⟨b, off, none⟩) 4 c) HSx ?_; simp only [lxa, lxb, lxc]
    refine lx_r 3 _ HSx ?_; simp only [lxa, lxb, lxc]
    refine lx_r 4 (.slice (some ⟨b, off + 4, none⟩) 4 (c - 4)) HSx ?_; simp only [lxa, lxb, lxc]
    refine lx_r 6 _ HSx ?_; simp only [lxa, lxb, lxc]
    refine lx_r 7 (.slice (some ⟨b, o8, none⟩) (n - 8) (c - 8)) HSx ?_; simp only [lxa, lxb, lxc]
    refine lx_one 2 (by kernel_rfl) (stepT_call 130 ?a2x2 rfl rfl rfl ?r2x2 ?_)
    case r2x2 => first | (go_simp; rfl) | go_simp
    refine (hn1 _ HW).mono ?_
    rintro e w1 ⟨rfl, h1w⟩
    replace h1w := h1w.symm
    subst h1w
    refine ⟨_, rfl, fun _ => rfl, ?_⟩
    simp only [lxa, lxb, lxc]
    refine lx_one 5 (by kernel_rfl) (stepT_call 130 ?a5x2 rfl rfl rfl ?r5x2 ?_)
    case r5x2 => first | (go_simp; rfl) | go_simp
    refine (hn2 _ HW).mono ?_
    rintro e w1 ⟨rfl, h1w⟩
    replace h1w := h1w.symm
    subst h1w
    refine ⟨_, rfl, fun _ => rfl, ?_⟩
    simp only [lxa, lxb, lxc]
    refine lx_r 8 _ HSx ?_; simp only [lxa, lxb, lxc]
    refine lx_r 9 _ HSx ?_; simp only [lxa, lxb, lxc]
    refine lx_r 10 _ HSx ?_; simp only [lxa, lxb, lxc]
    refine lx_nil (by kernel_rfl) ?_
    go_wp2_with (go_at_call 137; refine (hSm _ HW).mono ?_; rintro e w3 ⟨rfl, h3⟩; replace h3 := h3.symm; subst h3)
    go_ret2
    refine ⟨⟨some ⟨b, o8, none⟩, c - 8, ?_, ?_⟩, HW⟩
    ·rw [hTl]; rfl
    ·rw [hTl]; exact Hr4.out
   ·rw [if_neg hCS]
    have hne : ((C : Int) == (S : Int)) = false := by rw [beq_eq_false_iff_ne]; omega
    go_enter Tryz.func154, Tryz.ntmps154
    go_upto_region 3 with fail
    refine wp_region_lx (fun w' => w' = w.drew) [] 11 (by kernel_rfl) (by kernel_rfl) ?_
    have HSx : w.drew = w.drew := rfl
    refine lx_r 0 _ HSx ?_; simp only [lxa, lxb, lxc]
    refine lx_r 1 (.slice (some ⟨b, off, none⟩) 4 c) HSx ?_; simp only [lxa, lxb, lxc]
    refine lx_r 3 _ HSx ?_; simp only [lxa, lxb, lxc]
    refine lx_r 4 (.slice (some ⟨b, off + 4, none⟩) 4 (c - 4)) HSx ?_; simp only [lxa, lxb, lxc]
    refine lx_r 6 _ HSx ?_; simp only [lxa, lxb, lxc]
    refine lx_r 7 (.slice (some ⟨b, o8, none⟩) (n - 8) (c - 8)) HSx ?_; simp only [lxa, lxb, lxc]
    refine lx_one 2 (by kernel_rfl) (stepT_call 130 ?a2x3 rfl rfl rfl ?r2x3 ?_)
    case r2x3 => first | (go_simp; rfl) | go_simp
    refine (hn1 _ HW).mono ?_
    rintro e w1 ⟨rfl, h1w⟩
    replace h1w := h1w.symm
    subst h1w
    refine ⟨_, rfl, fun _ => rfl, ?_⟩
    simp only [lxa, lxb, lxc]
    refine lx_one 5 (by kernel_rfl) (stepT_call 130 ?a5x3 rfl rfl rfl ?r5x3 ?_)
    case r5x3 => first | (go_simp; rfl) | go_simp
    refine (hn2 _ HW).mono ?_
    rintro e w1 ⟨rfl, h1w⟩
    replace h1w := h1w.symm
    subst h1w
    refine ⟨_, rfl, fun _ => rfl, ?_⟩
    simp only [lxa, lxb, lxc]
    refine lx_r 8 _ HSx ?_; simp only [lxa, lxb, lxc]
    refine lx_r 9 _ HSx ?_; simp only [lxa, lxb, lxc]
    refine lx_r 10 _ HSx ?_; simp only [lxa, lxb, lxc]
    refine lx_nil (by kernel_rfl) ?_
    go_wp2_with (go_at_call 137; refine (hSm _ HW).mono ?_; rintro e w3 ⟨rfl, h3⟩; replace h3 := h3.symm; subst h3)
    go_ret2
    exact ⟨⟨_, rfl⟩, HW⟩
end Go.Proofs.YtikkieaokfailaaGreatDoor

namespace Go.Proofs.YtikkieaokfailaaGreatDoor
open Go.RowKit Go.Joins
theorem put_mid {dn post : Fls} {n : Nm} {f g : Fle} (hr : Rise (dn ++ (n, f) :: post)) : putL (dn ++ (n, f) :: post) n g = dn ++ (n, g) :: post := by
 induction dn with
 | nil =>
  show putL ((n, f) :: post) n g = _
  unfold putL
  rw [if_neg (ltN_irrefl n), if_pos rfl]
  rfl
 | cons q r ih =>
  obtain ⟨a, x⟩ := q
  show putL ((a, x) :: (r ++ (n, f) :: post)) n g = (a, x) :: (r ++ (n, g) :: post)
  have h1 : ltN a n := hr.1 (n, f) (List.mem_append_right _ (List.mem_cons_self ..))
  unfold putL
  rw [if_neg (fun h => ltN_irrefl _ (ltN_trans h h1)), if_neg (fun e => by subst e; exact ltN_irrefl _ h1), ih hr.2]
theorem restL_len (l : Fls) (keep : List Int) : (restL l keep).length = l.length := by
 induction l generalizing keep with
 | nil => rfl
 | cons q r ih =>
  obtain ⟨n, f⟩ := q
  unfold restL
  split <;> simp [ih]
theorem max_int (x y : Int) (ty : TypeId) (w : World) : (Builtin.max_ #[3, 3] ty #[.int .i64 x, .int .i64 y]).run Tryz.prog w = .ok (.int .i64 (max x y)) w := by
 rw [run_max_int2]
 congr 2
 split <;> omega
end Go.Proofs.YtikkieaokfailaaGreatDoor

namespace Go.Proofs.YtikkieaokfailaaGreatDoor
open Go.RowKit Go.Joins
def chs (c : Ch) : Array Value := #[.int .u64 (c.g : Int), .int .i64 (c.cnt : Int), .int .i64 (c.size : Int), .bool c.loose]
structure LC (w : World) (F : Nat → Prop) (lb d most : Nat) (v : Value) (dn : Bool) (k : Dk) (b off : Nat) (c0 c : Ch) : Prop where
 L : LD w F lb d most v (if b = lb then c else c0) dn k
 o : b = lb → off = 3
 n : b ≠ lb → off = 0 ∧ ¬ F b ∧ w.heap[b]? = some (.cells (chs c) 117 (0, 0))
section
variable {w w' : World} {F : Nat → Prop} {lb d most : Nat} {v : Value} {dn : Bool} {k : Dk} {b off : Nat} {c0 c : Ch}
theorem LC.nfb (h : LC w F lb d most v dn k b off c0 c) : ¬ F b := by
 by_cases e : b = lb
 ·rw [e]; exact h.L.nf
 ·exact (h.n e).2.1
theorem LC.ltb (h : LC w F lb d most v dn k b off c0 c) : b < w.heap.size := by
 by_cases e : b = lb
 ·rw [e]; exact h.L.lt
 ·exact (Array.getElem?_eq_some_iff.1 (h.n e).2.2).1
theorem LC.below (h : LC w F lb d most v dn k b off c0 c) (hb : Below w.heap.size w w') : LC w' F lb d most v dn k b off c0 c :=
 ⟨h.L.below hb, h.o, fun e => ⟨(h.n e).1, (h.n e).2.1, box_below (h.n e).2.2 hb⟩⟩
theorem LC.keep {S : Nat → Prop} (h : LC w F lb d most v dn k b off c0 c) (hk : Keep S w w') (hF : ∀ i, F i → ¬ S i) (hl : ¬ S lb) (hb : ¬ S b) : LC w' F lb d most v dn k b off c0 c :=
 ⟨h.L.keep hk hF hl, h.o, fun e => ⟨(h.n e).1, (h.n e).2.1, box_keep (h.n e).2.2 hk hb⟩⟩
theorem LC.cell (h : LC w F lb d most v dn k b off c0 c) (j : Nat) (hj : j < 4) : w.cell? ⟨b, off + j, none⟩ = (chs c)[j]? := by
 by_cases e : b = lb
 ·subst e
  have hL := h.L
  rw [if_pos rfl] at hL
  rw [h.o rfl]
  match j, hj with
  | 0, _ => exact hL.c3
  | 1, _ => exact hL.c4
  | 2, _ => exact hL.c5
  | 3, _ => exact hL.c6
 ·rw [(h.n e).1, cell_of_block (h.n e).2.2, Nat.zero_add]
theorem LC.fz (h : LC w F lb d most v dn k b off c0 c) (j : Nat) : w.frozen? ⟨b, j, none⟩ = false := by
 by_cases e : b = lb
 ·rw [e]; exact h.L.fz j
 ·exact unfrozen_of_block (h.n e).2.2 j
theorem LC.set (h : LC w F lb d most v dn k b off c0 c) (j : Nat) (u : Value) {c' : Ch} (e1 : (chs c).setIfInBounds j u = chs c') (e2 : (lcs d most v c dn).setIfInBounds (3 + j) u = lcs d most v c' dn) : LC (w.setCell ⟨b, off + j, none⟩ u) F lb d most v dn k b off c0 c' := by
 by_cases e : b = lb
 ·subst e
  have hL := h.L
  rw [if_pos rfl] at hL
  refine ⟨?_, h.o, fun e => absurd rfl e⟩
  rw [if_pos rfl, h.o rfl]
  exact hL.set (3 + j) u e2
 ·have hL := h.L
  rw [if_neg e] at hL
  have hk : Keep (fun i => i = b) w (w.setCell ⟨b, off + j, none⟩ u) := (Keep.refl (fun i => i = b) w).setCell (p := ⟨b, off + j, none⟩) rfl u
  refine ⟨?_, h.o, fun _ => ⟨(h.n e).1, (h.n e).2.1, ?_⟩⟩
  ·rw [if_neg e]
   exact hL.keep hk (fun i hi e2 => h.nfb (by rw [← e2]; exact hi)) (fun e2 => e e2.symm)
  ·rw [(h.n e).1, Nat.zero_add, ← e1]
   exact block_setCell (h.n e).2.2 u
theorem LC.setK (_ : LC w F lb d most v dn k b off c0 c) (j : Nat) (u : Value) : Keep (fun i => F i ∨ i = lb ∨ i = b) w (w.setCell ⟨b, j, none⟩ u) := (Keep.refl _ w).setCell (p := ⟨b, j, none⟩) (Or.inr (Or.inr rfl)) u
end
def Lcp (w : World) (F : Nat → Prop) (lb d most : Nat) (v : Value) (dn : Bool) (k : Dk) (b off : Nat) (c0 c : Ch) (w' : World) : Prop := ∃ F', LC w' F' lb d most v dn k b off c0 c ∧ Keep (fun i => F i ∨ i = lb ∨ i = b) w w' ∧ (∀ i, F' i → F i ∨ w.heap.size ≤ i)
theorem Lcp.refl {w : World} {F : Nat → Prop} {lb d most : Nat} {v : Value} {dn : Bool} {k : Dk} {b off : Nat} {c0 c : Ch} (h : LC w F lb d most v dn k b off c0 c) : Lcp w F lb d most v dn k b off c0 c w := ⟨F, h, Keep.refl _ _, fun _ h => Or.inl h⟩
theorem Lcp.next {w w1 w2 : World} {F F1 : Nat → Prop} {lb d most : Nat} {v : Value} {dn : Bool} {k : Dk} {b off : Nat} {c0 c : Ch} (kp : Keep (fun i => F i ∨ i = lb ∨ i = b) w w1) (e1 : ∀ i, F1 i → F i ∨ w.heap.size ≤ i) (h : Lcp w1 F1 lb d most v dn k b off c0 c w2) : Lcp w F lb d most v dn k b off c0 c w2 := by
 obtain ⟨F', h1, h2, h3⟩ := h
 refine ⟨F', h1, kp.andThen h2 (fun i hi hs => ?_), fun i hi => ?_⟩
 ·rcases hs with hs | hs
  ·rcases e1 i hs with h | h
   ·exact Or.inl h
   ·omega
  ·exact Or.inr hs
 ·rcases h3 i hi with h | h
  ·exact e1 i h
  ·exact Or.inr (Nat.le_trans kp.size h)
theorem Lcp.from {w0 w w' : World} {F : Nat → Prop} {lb d most : Nat} {v : Value} {dn : Bool} {k : Dk} {b off : Nat} {c0 c : Ch} (hb : Below w0.heap.size w0 w) (h : Lcp w F lb d most v dn k b off c0 c w') : Lcp w0 F lb d most v dn k b off c0 c w' := by
 obtain ⟨F', h1, h2, h3⟩ := h
 exact ⟨F', h1, (Keep.ofBelow hb).trans h2, fun i hi => (h3 i hi).imp id (fun h => Nat.le_trans hb.size h)⟩
theorem LC.step {w w1 : World} {F : Nat → Prop} {lb d most : Nat} {v : Value} {dn dn' : Bool} {k k' : Dk} {b off : Nat} {c0 c : Ch} (h : LC w F lb d most v dn k b off c0 c) (hp : Lp w F lb d most v (if b = lb then c else c0) dn' k' w1) : Lcp w F lb d most v dn' k' b off c0 c w1 := by
 obtain ⟨F1, h1, h2, h3⟩ := hp
 have hlt := h.ltb
 refine ⟨F1, ⟨h1, h.o, fun e => ⟨(h.n e).1, fun hf => ?_, box_keep (h.n e).2.2 h2 (fun hs => ?_)⟩⟩, h2.mono (fun i hi => hi.elim Or.inl (fun h => Or.inr (Or.inl h))), h3⟩
 ·rcases h3 b hf with h4 | h4
  ·exact h.nfb h4
  ·omega
 ·rcases hs with hs | hs
  ·exact h.nfb hs
  ·exact e hs
def settleL (c : Ch) (dn : Bool) (k : Dk) : Nat × Ch × Bool × Dk :=
 if c.loose then ((stp dn k (syncK k (segN c.g c.cnt))).1, (if (stp dn k (syncK k (segN c.g c.cnt))).1 = 0 then { c with loose := false } else c), (stp dn k (syncK k (segN c.g c.cnt))).2)
 else (0, c, dn, k)
set_option maxHeartbeats 1000000 in
theorem settle_any (w : World) (F : Nat → Prop) (lb d most : Nat) (v : Value) (dn : Bool) (k : Dk) (b off : Nat) (c0 c : Ch) (h : LC w F lb d most v dn k b off c0 c) (hP : Pf w F lb) (hg : c.g < 18446744073709551616) (hi : c.cnt ≤ 9223372036854775807) (hst : k.steps < 1000000) (hfl : k.fs.length < 1000000) :
  Calls Tryz.prog 68 #[.pointer (some ⟨lb, 0, none⟩), .pointer (some ⟨b, off, none⟩)] w fun e w' => Gs (settleL c dn k).1 e ∧ Lcp w F lb d most v (settleL c dn k).2.2.1 (settleL c dn k).2.2.2 b off c0 (settleL c dn k).2.1 w' := by
 have q0 : w.cell? ⟨b, off, none⟩ = some (.int .u64 (c.g : Int)) := h.cell 0 (by omega)
 have q1 : w.cell? ⟨b, off + 1, none⟩ = some (.int .i64 (c.cnt : Int)) := h.cell 1 (by omega)
 have q3 : w.cell? ⟨b, off + 3, none⟩ = some (.bool c.loose) := h.cell 3 (by omega)
 by_cases hl : c.loose = true
 ·rw [hl] at q3
  have hsg := segment_any b off c.g c.cnt hg hi w hP.pw q0
  obtain ⟨s, Hs⟩ : ∃ s, Hid (segN c.g c.cnt = s) := ⟨_, rfl⟩
  have hE : settleL c dn k = ((stp dn k (syncK k s)).1, (if (stp dn k (syncK k s)).1 = 0 then { c with loose := false } else c), (stp dn k (syncK k s)).2) := by unfold settleL; rw [if_pos hl, Hs.out]
  rw [hE]
  rw [Hs.out] at hsg
  have hsy := fun w' (hb : Below w.heap.size w w') => ssync_any lb d most F v _ dn k s hst hfl w' (h.L.below hb)
  obtain ⟨P, HP⟩ : ∃ P, Hid (stp dn k (syncK k s) = P) := ⟨_, rfl⟩
  rw [HP.out]
  simp only [HP.out] at hsy
  obtain ⟨en, dn', k'⟩ := P
  dsimp only at hsy ⊢
  have hfin : ∀ w1 w2, Below w.heap.size w w1 → Lp w1 F lb d most v (if b = lb then c else c0) dn' k' w2 → Lcp w F lb d most v dn' k' b off c0 c w2 := fun w1 w2 hb hp => ((h.below hb).step hp).from hb
  clear hE
  by_cases h0 : en = 0
  ·subst h0
   rw [if_pos rfl]
   go_enter Tryz.func68, Tryz.ntmps68
   go_wp2_with (first
    | (go_at_call 103; refine hsg.mono ?_; rintro e w1 ⟨rfl, hb1⟩)
    | (go_at_call 104; refine ((hsy w1 hb1).mono (fun e w' h => And.intro (h.1.elim (fun k => k.2) (fun k => absurd rfl k.1)) h.2 : ∀ e w', _ → (e = .returned (.tuple #[]) ∧ _))).mono ?_; rintro e w2 ⟨rfl, hp⟩; obtain ⟨F2, hL2, hk2, hF2⟩ := hfin w1 w2 hb1 hp; have p3 : w2.cell? ⟨b, off + 3, none⟩ = some (.bool c.loose) := hL2.cell 3 (by omega); have z3 := hL2.fz (off + 3)))
   go_end0
   exact ⟨Or.inl ⟨rfl, rfl⟩, F2, hL2.set 3 _ rfl rfl, hk2.trans ((Keep.refl _ w2).setCell (p := ⟨b, off + 3, none⟩) (Or.inr (Or.inr rfl)) _), hF2⟩
  ·rw [if_neg h0]
   go_enter Tryz.func68, Tryz.ntmps68
   go_wp2_with (first
    | (go_at_call 103; refine hsg.mono ?_; rintro e w1 ⟨rfl, hb1⟩)
    | (go_at_call 104; refine ((hsy w1 hb1).mono (fun e w' h => And.intro (h.1.elim (fun k => absurd k.1 h0) (fun k => k.2)) h.2 : ∀ e w', _ → (e = .panicked (gaveS en) ∧ _))).mono ?_; rintro e w2 ⟨rfl, hp⟩))
   exact ⟨rfl, gs_no h0 rfl, hfin w1 w2 hb1 hp⟩
 ·have hl' : c.loose = false := by simpa using hl
  rw [hl'] at q3
  have hE : settleL c dn k = (0, c, dn, k) := by unfold settleL; rw [if_neg hl]
  rw [hE]
  clear hE
  go_enter Tryz.func68, Tryz.ntmps68
  go_wp2
  go_end0
  exact ⟨Or.inl ⟨rfl, rfl⟩, Lcp.refl h⟩
end Go.Proofs.YtikkieaokfailaaGreatDoor

namespace Go.Proofs.YtikkieaokfailaaGreatDoor
open Go.RowKit Go.Joins
def putS (i sz : Nat) (c : Ch) (b : List Int) (dn : Bool) (k : Dk) : Nat × Ch × Bool × Dk :=
 ((stp dn k (appK k (segN c.g i) b)).1, (if (stp dn k (appK k (segN c.g i) b)).1 = 0 then ⟨c.g, i, sz + b.length, true⟩ else c), (stp dn k (appK k (segN c.g i) b)).2)
def layL (most : Nat) (c : Ch) (b : List Int) (dn : Bool) (k : Dk) : Nat × Ch × Bool × Dk :=
 if 0 < c.size ∧ most < c.size + b.length then
  (if (settleL c dn k).1 ≠ 0 then settleL c dn k else putS (max c.cnt 1 + 1) 0 (settleL c dn k).2.1 b (settleL c dn k).2.2.1 (settleL c dn k).2.2.2)
 else putS (max c.cnt 1) c.size c b dn k
theorem putS_eq {i sz : Nat} {c : Ch} {b : List Int} {dn dn' : Bool} {k k' : Dk} {en : Nat} (h : stp dn k (appK k (segN c.g i) b) = (en, dn', k')) : putS i sz c b dn k = (en, (if en = 0 then ⟨c.g, i, sz + b.length, true⟩ else c), dn', k') := by unfold putS; rw [h]
theorem stp_gr (dn : Bool) (k : Dk) (r : Nat × Dk) (h : r.2.steps ≤ k.steps + 1) : (stp dn k r).2.2.steps ≤ k.steps + 1 := by
 unfold stp
 cases dn
 ·exact h
 ·exact Nat.le_succ _
theorem stp_fl (dn : Bool) (k : Dk) (r : Nat × Dk) (h : r.2.fs.length ≤ k.fs.length + 1) : (stp dn k r).2.2.fs.length ≤ k.fs.length + 1 := by
 unfold stp
 cases dn
 ·exact h
 ·exact Nat.le_succ _
theorem sync_gr (k : Dk) (s : Nm) : (syncK k s).2.steps ≤ k.steps + 1 ∧ (syncK k s).2.fs.length ≤ k.fs.length + 1 := by
 unfold syncK stepK
 have h1 := pass_steps k
 have h2 := pass_fs k
 split
 ·exact ⟨Nat.le_succ _, Nat.le_succ _⟩
 ·split
  ·exact ⟨Nat.le_succ _, Nat.le_succ _⟩
  ·split
   ·exact ⟨Nat.le_succ _, Nat.le_succ _⟩
   ·split
    ·exact ⟨Nat.le_succ _, Nat.le_succ _⟩
    ·split
     ·exact ⟨h1, by rw [h2]; exact Nat.le_succ _⟩
     ·refine ⟨h1, ?_⟩
      show (putL _ _ _).length ≤ _
      rw [← h2]
      exact len_put _ _ _
theorem settle_gr (c : Ch) (dn : Bool) (k : Dk) : (settleL c dn k).2.2.2.steps ≤ k.steps + 1 ∧ (settleL c dn k).2.2.2.fs.length ≤ k.fs.length + 1 ∧ (settleL c dn k).2.1.g = c.g ∧ (settleL c dn k).2.1.cnt = c.cnt := by
 unfold settleL
 split
 ·refine ⟨stp_gr _ _ _ (sync_gr _ _).1, stp_fl _ _ _ (sync_gr _ _).2, ?_, ?_⟩
  ·dsimp only; split <;> rfl
  ·dsimp only; split <;> rfl
 ·exact ⟨Nat.le_succ _, Nat.le_succ _, rfl, rfl⟩
theorem Pf.next3 {w w' : World} {F F' : Nat → Prop} {lb b : Nat} (h : Pf w F lb) (hb : 0 < b) (hk : Keep (fun i => F i ∨ i = lb ∨ i = b) w w') (hF : ∀ i, F' i → F i ∨ w.heap.size ≤ i) : Pf w' F' lb := by
 refine ⟨h.pw.keep hk (fun hs => ?_), fun i hi => ?_, h.ll⟩
 ·rcases hs with hs | hs | hs
  ·have := h.fl _ hs; omega
  ·have := h.ll; omega
  ·omega
 ·rcases hF i hi with h1 | h1
  ·exact h.fl i h1
  ·have := h.pw.at; omega
set_option maxHeartbeats 4000000 in
set_option maxRecDepth 100000 in
theorem lay_any (w : World) (F : Nat → Prop) (lb d most : Nat) (v : Value) (dn : Bool) (k : Dk) (b off : Nat) (c0 c : Ch) (h : LC w F lb d most v dn k b off c0 c) (hP : Pf w F lb) (hPb : 0 < b) (hg : c.g < 18446744073709551616) (hi : c.cnt ≤ 1000000000000) (hz : c.size ≤ 1000000000000) (hmo : most ≤ 1000000000000) (hst : k.steps < 999999) (hfl : k.fs.length < 999999)
  (a : Option Addr) (n cc : Nat) (xs : List Int) (hR : Rd w a n cc xs) (hn : n ≤ 1048576) :
  Calls Tryz.prog 65 #[.pointer (some ⟨lb, 0, none⟩), .pointer (some ⟨b, off, none⟩), .slice a n cc] w fun e w' => Gs (layL most c (formL xs) dn k).1 e ∧ Lcp w F lb d most v (layL most c (formL xs) dn k).2.2.1 (layL most c (formL xs) dn k).2.2.2 b off c0 (layL most c (formL xs) dn k).2.1 w' := by
 have hfo := form_any a n cc xs w hR hn
 have hlen := formL_len xs
 rw [hR.len] at hlen
 have HYb : Hid (Bd (formL xs)) := by
  show Bd (formL xs)
  unfold formL
  exact ((bigL_bd _ _).append (bigL_bd _ _)).append hR.bytes
 obtain ⟨Y, HY⟩ : ∃ Y, Hid (formL xs = Y) := ⟨_, rfl⟩
 rw [HY.out] at hfo hlen HYb ⊢
 obtain ⟨M, HM⟩ : ∃ M, Hid (8 + n = M) := ⟨_, rfl⟩
 rw [HM.out] at hfo hlen
 obtain ⟨R, HR⟩ : ∃ R, Hid (layL most c Y dn k = R) := ⟨_, rfl⟩
 rw [HR.out]
 obtain ⟨eR, cR, dnR, kR⟩ := R
 dsimp only
 have hM9 : M ≤ 1048584 := by have := HM.out; omega
 obtain ⟨I, HI⟩ : ∃ I, Hid (max c.cnt 1 = I) := ⟨_, rfl⟩
 have hIe : max (c.cnt : Int) 1 = (I : Int) := by rw [← HI.out]; omega
 have hI9 : I ≤ 1000000000001 := by have := HI.out; omega
 have hmx := fun (w : World) (ty : TypeId) => max_int (c.cnt : Int) 1 ty w
 rw [hIe] at hmx
 go_enter Tryz.func65, Tryz.ntmps65
 go_upto_region 1 with (first
  | (go_at_call 101; refine hfo.mono ?_; rintro e w5 ⟨v5, rfl, o5, hb5⟩))
 obtain ⟨a5, c5, rfl, r5⟩ := Rd.ofOwn o5 HYb.out
 have hl5 : ∀ ad, a5 = some ad → w.heap.size ≤ ad.block := fun ad had => by
  obtain ⟨ap, cp, e8, hob8⟩ := own_form o5
  exact (o5.lt ad.block (by rw [had]; cases ap with | none => (rw [had] at e8; cases e8) | some g => (rw [had] at e8; cases e8; rfl))).1
 have h5 := h.below hb5
 have hP5 := hP.below hb5
 refine wp_region_lx (fun w' => w' = w5.drew) [] 11 (by kernel_rfl) (by kernel_rfl) ?_
 have hbd : Below w5.heap.size w5 w5.drew := (Below.refl _ _).drew
 have r6 := r5.carry (Nat.le_refl _) hbd
 have h6 := h5.below hbd
 have hP6 := hP5.below hbd
 have hb6 : Below w.heap.size w w5.drew := hb5.drew
 clear h5 hP5 r5 o5 hb5 hbd
 generalize w5.drew = X at *
 have p1 : X.cell? ⟨b, off + 1, none⟩ = some (.int .i64 (c.cnt : Int)) := h6.cell 1 (by omega)
 have p2 : X.cell? ⟨b, off + 2, none⟩ = some (.int .i64 (c.size : Int)) := h6.cell 2 (by omega)
 have p9 := h6.L.c1
 have HSx : X = X := rfl
 refine lx_r 0 _ HSx ?_; simp only [lxa, lxb, lxc]
 refine lx_r 1 (.pointer (some ⟨b, off, none⟩)) HSx ?_; simp only [lxa, lxb, lxc]
 refine lx_r 2 (.pointer (some ⟨b, off + 1, none⟩)) HSx ?_; simp only [lxa, lxb, lxc]
 refine lx_r 3 (.int .i64 (c.cnt : Int)) HSx ?_ (hv := fun w' hS => by subst hS; first | (go_simp; rfl) | go_simp); simp only [lxa, lxb, lxc]
 refine lx_r 4 (.int .i64 (I : Int)) HSx ?_; simp only [lxa, lxb, lxc]
 refine lx_r 5 _ HSx ?_; simp only [lxa, lxb, lxc]
 refine lx_r 6 (.pointer (some ⟨b, off, none⟩)) HSx ?_; simp only [lxa, lxb, lxc]
 refine lx_r 7 (.pointer (some ⟨b, off + 2, none⟩)) HSx ?_; simp only [lxa, lxb, lxc]
 refine lx_r 8 (.int .i64 (c.size : Int)) HSx ?_ (hv := fun w' hS => by subst hS; first | (go_simp; rfl) | go_simp); simp only [lxa, lxb, lxc]
 refine lx_r 9 _ HSx ?_; simp only [lxa, lxb, lxc]
 refine lx_r 10 _ HSx ?_; simp only [lxa, lxb, lxc]
 refine lx_nil (by kernel_rfl) ?_
 have kp6 : Keep (fun i => F i ∨ i = lb ∨ i = b) w X := Keep.ofBelow hb6
 clear hmx HSx
 by_cases hfull : 0 < c.size ∧ most < c.size + M
 ·have hEq0 : layL most c Y dn k = if (settleL c dn k).1 ≠ 0 then settleL c dn k else putS (I + 1) 0 (settleL c dn k).2.1 Y (settleL c dn k).2.2.1 (settleL c dn k).2.2.2 := by
   unfold layL
   rw [if_pos (by rw [hlen]; exact hfull), HI.out]
  have hse := settle_any X F lb d most v dn k b off c0 c h6 hP6 hg (by omega) (by omega) (by omega)
  obtain ⟨gr1, gr2, gr3, gr4⟩ := settle_gr c dn k
  obtain ⟨Q, HQ⟩ : ∃ Q, Hid (settleL c dn k = Q) := ⟨_, rfl⟩
  rw [HQ.out] at hse gr1 gr2 gr3 gr4 hEq0
  obtain ⟨eq, c1, dn1, k1⟩ := Q
  dsimp only at hse gr1 gr2 gr3 gr4 hEq0
  have hz1 : (0 : Int) < (c.size : Int) := by omega
  have hz2 : (most : Int) < (c.size : Int) + (M : Int) := by omega
  clear hfull
  by_cases hq0 : eq = 0
  ·subst hq0
   rw [if_neg (by simp)] at hEq0
   have hEq : Hid (layL most c Y dn k = putS (I + 1) 0 c1 Y dn1 k1) := hEq0
   clear hEq0
   go_upto_region 5 with (first
    | (go_at_call 68; refine (hse.mono (fun e w' h => And.intro (h.1.elim (fun k => k.2) (fun k => absurd rfl k.1)) h.2 : ∀ e w', _ → (e = .returned (.tuple #[]) ∧ _))).mono ?_; rintro e w4 ⟨rfl, F4, hL4, hk4, hF4⟩))
   have kp4 : Keep (fun i => F i ∨ i = lb ∨ i = b) w w4 := kp6.trans hk4
   have hF40 : ∀ i, F4 i → F i ∨ w.heap.size ≤ i := fun i hi => (hF4 i hi).imp id (fun h => Nat.le_trans hb6.size h)
   have hP4 : Pf w4 F4 lb := hP6.next3 hPb hk4 hF4
   have r4 : Rd w4 a5 M c5 Y := r6.keep hk4 (fun ad had hs => by
    have h1 := hl5 ad had
    rcases hs with hs | hs | hs
    ·have := h.L.D.lt _ hs; omega
    ·have := h.L.lt; omega
    ·have := h.ltb; omega)
   have hI1 : ((I + 1 : Nat) : Int) = (I : Int) + 1 := by omega
   clear hse hk4 hF4 h6 hP6 r6 p1 p2 p9 hz1 hz2
   have hsgu := segment_any b off c1.g (I + 1) (by rw [gr3]; exact hg) (by omega) w4 hP4.pw (hL4.cell 0 (by omega))
   obtain ⟨s, Hs⟩ : ∃ s, Hid (segN c1.g (I + 1) = s) := ⟨_, rfl⟩
   rw [Hs.out] at hsgu
   rw [hI1] at hsgu
   have hwru := fun w' (hb : Below w4.heap.size w4 w') => swrite_any lb d most F4 v _ dn1 k1 s a5 M c5 Y (by omega) (by omega) (by omega) w' (hL4.L.below hb) (r4.carry (Nat.le_refl _) hb)
   obtain ⟨P, HP⟩ : ∃ P, Hid (stp dn1 k1 (appK k1 s Y) = P) := ⟨_, rfl⟩
   simp only [HP.out] at hwru
   obtain ⟨en, dn', k'⟩ := P
   dsimp only at hwru
   have hpp : stp dn1 k1 (appK k1 (segN c1.g (I + 1)) Y) = (en, dn', k') := by rw [Hs.out]; exact HP.out
   have hpe : Hid (layL most c Y dn k = (en, (if en = 0 then ⟨c1.g, (I + 1), 0 + M, true⟩ else c1), dn', k')) := by
    show _ = _
    rw [hEq.out, putS_eq hpp, hlen]
   clear hpp
   have hfinu : ∀ w1 w2, Below w4.heap.size w4 w1 → Lp w1 F4 lb d most v (if b = lb then c1 else c0) dn' k' w2 → Lcp w F lb d most v dn' k' b off c0 c1 w2 := fun w1 w2 hb hp => Lcp.next kp4 hF40 (((hL4.below hb).step hp).from hb)
   by_cases h0 : en = 0
   ·subst h0
    have hres := HR.out.symm.trans hpe.out
    rw [if_pos rfl] at hres
    simp only [Prod.mk.injEq] at hres
    obtain ⟨e1, e2, e3, e4⟩ := hres
    subst eR cR dnR kR
    clear hpe HR
    go_wp2_with (first
     | (go_at_call 103; refine hsgu.mono ?_; rintro e w7 ⟨rfl, hb7⟩)
     | (go_at_call 102; refine ((hwru w7 hb7).mono (fun e w' h => And.intro (h.1.elim (fun k => k.2) (fun k => absurd rfl k.1)) h.2 : ∀ e w', _ → (e = .returned (.tuple #[]) ∧ _))).mono ?_; rintro e w8 ⟨rfl, hp⟩; obtain ⟨F8, hL8, hk8, hF8⟩ := hfinu w7 w8 hb7 hp; have p1 : w8.cell? ⟨b, off + 1, none⟩ = some (.int .i64 (c1.cnt : Int)) := hL8.cell 1 (by omega); have z1 := hL8.fz (off + 1); have hL9 := hL8.set 1 (.int .i64 ((I : Int) + 1)) (c' := ⟨c1.g, (I + 1), c1.size, c1.loose⟩) rfl rfl; have p2 : (w8.setCell ⟨b, off + 1, none⟩ (.int .i64 ((I : Int) + 1))).cell? ⟨b, off + 2, none⟩ = some (.int .i64 (c1.size : Int)) := hL9.cell 2 (by omega); have z2 := hL9.fz (off + 2); have hL10 := hL9.set 2 (.int .i64 ((M : Int))) (c' := ⟨c1.g, (I + 1), 0 + M, c1.loose⟩) (by rw [Nat.zero_add]; rfl) (by rw [Nat.zero_add]; rfl); have p3 : ((w8.setCell ⟨b, off + 1, none⟩ (.int .i64 ((I : Int) + 1))).setCell ⟨b, off + 2, none⟩ (.int .i64 ((M : Int)))).cell? ⟨b, off + 3, none⟩ = some (.bool c1.loose) := hL10.cell 3 (by omega); have z3 := hL10.fz (off + 3)))
    go_end0
    refine ⟨Or.inl ⟨rfl, rfl⟩, F8, hL10.set 3 _ rfl rfl, ?_, hF8⟩
    exact ((hk8.setCell (p := ⟨b, off + 1, none⟩) (Or.inr (Or.inr rfl)) _).setCell (p := ⟨b, off + 2, none⟩) (Or.inr (Or.inr rfl)) _).setCell (p := ⟨b, off + 3, none⟩) (Or.inr (Or.inr rfl)) _
   ·have hres := HR.out.symm.trans hpe.out
    rw [if_neg h0] at hres
    simp only [Prod.mk.injEq] at hres
    obtain ⟨e1, e2, e3, e4⟩ := hres
    subst eR cR dnR kR
    clear hpe HR
    go_wp2_with (first
     | (go_at_call 103; refine hsgu.mono ?_; rintro e w7 ⟨rfl, hb7⟩)
     | (go_at_call 102; refine ((hwru w7 hb7).mono (fun e w' h => And.intro (h.1.elim (fun k => absurd k.1 h0) (fun k => k.2)) h.2 : ∀ e w', _ → (e = .panicked (gaveS en) ∧ _))).mono ?_; rintro e w8 ⟨rfl, hp⟩))
    exact ⟨rfl, gs_no h0 rfl, hfinu w7 w8 hb7 hp⟩
  ·rw [if_pos hq0] at hEq0
   have hres := HR.out.symm.trans hEq0
   simp only [Prod.mk.injEq] at hres
   obtain ⟨e1, e2, e3, e4⟩ := hres
   subst eR cR dnR kR
   clear hEq0 HR
   go_wp2_with (first
    | (go_at_call 68; refine (hse.mono (fun e w' h => And.intro (h.1.elim (fun k => absurd k.1 hq0) (fun k => k.2)) h.2 : ∀ e w', _ → (e = .panicked (gaveS eq) ∧ _))).mono ?_; rintro e w4 ⟨rfl, hp4⟩))
   exact ⟨rfl, gs_no hq0 rfl, Lcp.next kp6 (fun i hi => Or.inl hi) hp4⟩
 ·have hEq : Hid (layL most c Y dn k = putS I c.size c Y dn k) := by
   show _ = _
   unfold layL
   rw [if_neg (by rw [hlen]; exact hfull), HI.out]
  have hF60 : ∀ i, F i → F i ∨ w.heap.size ≤ i := fun i hi => Or.inl hi
  by_cases hz0 : 0 < c.size
  ·have hz1 : (0 : Int) < (c.size : Int) := by omega
   have hz2 : ¬ (most : Int) < (c.size : Int) + (M : Int) := by omega
   clear hfull p1 p2
   go_upto_region 5 with fail
   have hsgv := segment_any b off c.g I hg (by omega) X hP6.pw (h6.cell 0 (by omega))
   obtain ⟨s, Hs⟩ : ∃ s, Hid (segN c.g I = s) := ⟨_, rfl⟩
   rw [Hs.out] at hsgv
   have hwrv := fun w' (hb : Below X.heap.size X w') => swrite_any lb d most F v _ dn k s a5 M c5 Y (by omega) (by omega) (by omega) w' (h6.L.below hb) (r6.carry (Nat.le_refl _) hb)
   obtain ⟨P, HP⟩ : ∃ P, Hid (stp dn k (appK k s Y) = P) := ⟨_, rfl⟩
   simp only [HP.out] at hwrv
   obtain ⟨en, dn', k'⟩ := P
   dsimp only at hwrv
   have hpp : stp dn k (appK k (segN c.g I) Y) = (en, dn', k') := by rw [Hs.out]; exact HP.out
   have hpe : Hid (layL most c Y dn k = (en, (if en = 0 then ⟨c.g, I, c.size + M, true⟩ else c), dn', k')) := by
    show _ = _
    rw [hEq.out, putS_eq hpp, hlen]
   clear hpp
   have hfinv : ∀ w1 w2, Below X.heap.size X w1 → Lp w1 F lb d most v (if b = lb then c else c0) dn' k' w2 → Lcp w F lb d most v dn' k' b off c0 c w2 := fun w1 w2 hb hp => Lcp.next kp6 hF60 (((h6.below hb).step hp).from hb)
   by_cases h0 : en = 0
   ·subst h0
    have hres := HR.out.symm.trans hpe.out
    rw [if_pos rfl] at hres
    simp only [Prod.mk.injEq] at hres
    obtain ⟨e1, e2, e3, e4⟩ := hres
    subst eR cR dnR kR
    clear hpe HR
    go_wp2_with (first
     | (go_at_call 103; refine hsgv.mono ?_; rintro e w7 ⟨rfl, hb7⟩)
     | (go_at_call 102; refine ((hwrv w7 hb7).mono (fun e w' h => And.intro (h.1.elim (fun k => k.2) (fun k => absurd rfl k.1)) h.2 : ∀ e w', _ → (e = .returned (.tuple #[]) ∧ _))).mono ?_; rintro e w8 ⟨rfl, hp⟩; obtain ⟨F8, hL8, hk8, hF8⟩ := hfinv w7 w8 hb7 hp; have p1 : w8.cell? ⟨b, off + 1, none⟩ = some (.int .i64 (c.cnt : Int)) := hL8.cell 1 (by omega); have z1 := hL8.fz (off + 1); have hL9 := hL8.set 1 (.int .i64 ((I : Int))) (c' := ⟨c.g, I, c.size, c.loose⟩) rfl rfl; have p2 : (w8.setCell ⟨b, off + 1, none⟩ (.int .i64 ((I : Int)))).cell? ⟨b, off + 2, none⟩ = some (.int .i64 (c.size : Int)) := hL9.cell 2 (by omega); have z2 := hL9.fz (off + 2); have hL10 := hL9.set 2 (.int .i64 ((c.size : Int) + (M : Int))) (c' := ⟨c.g, I, c.size + M, c.loose⟩) (by rw [← Int.natCast_add]; rfl) (by rw [← Int.natCast_add]; rfl); have p3 : ((w8.setCell ⟨b, off + 1, none⟩ (.int .i64 ((I : Int)))).setCell ⟨b, off + 2, none⟩ (.int .i64 ((c.size : Int) + (M : Int)))).cell? ⟨b, off + 3, none⟩ = some (.bool c.loose) := hL10.cell 3 (by omega); have z3 := hL10.fz (off + 3)))
    go_end0
    refine ⟨Or.inl ⟨rfl, rfl⟩, F8, hL10.set 3 _ rfl rfl, ?_, hF8⟩
    exact ((hk8.setCell (p := ⟨b, off + 1, none⟩) (Or.inr (Or.inr rfl)) _).setCell (p := ⟨b, off + 2, none⟩) (Or.inr (Or.inr rfl)) _).setCell (p := ⟨b, off + 3, none⟩) (Or.inr (Or.inr rfl)) _
   ·have hres := HR.out.symm.trans hpe.out
    rw [if_neg h0] at hres
    simp only [Prod.mk.injEq] at hres
    obtain ⟨e1, e2, e3, e4⟩ := hres
    subst eR cR dnR kR
    clear hpe HR
    go_wp2_with (first
     | (go_at_call 103; refine hsgv.mono ?_; rintro e w7 ⟨rfl, hb7⟩)
     | (go_at_call 102; refine ((hwrv w7 hb7).mono (fun e w' h => And.intro (h.1.elim (fun k => absurd k.1 h0) (fun k => k.2)) h.2 : ∀ e w', _ → (e = .panicked (gaveS en) ∧ _))).mono ?_; rintro e w8 ⟨rfl, hp⟩))
    exact ⟨rfl, gs_no h0 rfl, hfinv w7 w8 hb7 hp⟩
  ·have hz1 : ¬ (0 : Int) < (c.size : Int) := by omega
   clear hfull p1 p2 p9
   go_upto_region 5 with fail
   have hsgx := segment_any b off c.g I hg (by omega) X hP6.pw (h6.cell 0 (by omega))
   obtain ⟨s, Hs⟩ : ∃ s, Hid (segN c.g I = s) := ⟨_, rfl⟩
   rw [Hs.out] at hsgx
   have hwrx := fun w' (hb : Below X.heap.size X w') => swrite_any lb d most F v _ dn k s a5 M c5 Y (by omega) (by omega) (by omega) w' (h6.L.below hb) (r6.carry (Nat.le_refl _) hb)
   obtain ⟨P, HP⟩ : ∃ P, Hid (stp dn k (appK k s Y) = P) := ⟨_, rfl⟩
   simp only [HP.out] at hwrx
   obtain ⟨en, dn', k'⟩ := P
   dsimp only at hwrx
   have hpp : stp dn k (appK k (segN c.g I) Y) = (en, dn', k') := by rw [Hs.out]; exact HP.out
   have hpe : Hid (layL most c Y dn k = (en, (if en = 0 then ⟨c.g, I, c.size + M, true⟩ else c), dn', k')) := by
    show _ = _
    rw [hEq.out, putS_eq hpp, hlen]
   clear hpp
   have hfinx : ∀ w1 w2, Below X.heap.size X w1 → Lp w1 F lb d most v (if b = lb then c else c0) dn' k' w2 → Lcp w F lb d most v dn' k' b off c0 c w2 := fun w1 w2 hb hp => Lcp.next kp6 hF60 (((h6.below hb).step hp).from hb)
   by_cases h0 : en = 0
   ·subst h0
    have hres := HR.out.symm.trans hpe.out
    rw [if_pos rfl] at hres
    simp only [Prod.mk.injEq] at hres
    obtain ⟨e1, e2, e3, e4⟩ := hres
    subst eR cR dnR kR
    clear hpe HR
    go_wp2_with (first
     | (go_at_call 103; refine hsgx.mono ?_; rintro e w7 ⟨rfl, hb7⟩)
     | (go_at_call 102; refine ((hwrx w7 hb7).mono (fun e w' h => And.intro (h.1.elim (fun k => k.2) (fun k => absurd rfl k.1)) h.2 : ∀ e w', _ → (e = .returned (.tuple #[]) ∧ _))).mono ?_; rintro e w8 ⟨rfl, hp⟩; obtain ⟨F8, hL8, hk8, hF8⟩ := hfinx w7 w8 hb7 hp; have p1 : w8.cell? ⟨b, off + 1, none⟩ = some (.int .i64 (c.cnt : Int)) := hL8.cell 1 (by omega); have z1 := hL8.fz (off + 1); have hL9 := hL8.set 1 (.int .i64 ((I : Int))) (c' := ⟨c.g, I, c.size, c.loose⟩) rfl rfl; have p2 : (w8.setCell ⟨b, off + 1, none⟩ (.int .i64 ((I : Int)))).cell? ⟨b, off + 2, none⟩ = some (.int .i64 (c.size : Int)) := hL9.cell 2 (by omega); have z2 := hL9.fz (off + 2); have hL10 := hL9.set 2 (.int .i64 ((c.size : Int) + (M : Int))) (c' := ⟨c.g, I, c.size + M, c.loose⟩) (by rw [← Int.natCast_add]; rfl) (by rw [← Int.natCast_add]; rfl); have p3 : ((w8.setCell ⟨b, off + 1, none⟩ (.int .i64 ((I : Int)))).setCell ⟨b, off + 2, none⟩ (.int .i64 ((c.size : Int) + (M : Int)))).cell? ⟨b, off + 3, none⟩ = some (.bool c.loose) := hL10.cell 3 (by omega); have z3 := hL10.fz (off + 3)))
    go_end0
    refine ⟨Or.inl ⟨rfl, rfl⟩, F8, hL10.set 3 _ rfl rfl, ?_, hF8⟩
    exact ((hk8.setCell (p := ⟨b, off + 1, none⟩) (Or.inr (Or.inr rfl)) _).setCell (p := ⟨b, off + 2, none⟩) (Or.inr (Or.inr rfl)) _).setCell (p := ⟨b, off + 3, none⟩) (Or.inr (Or.inr rfl)) _
   ·have hres := HR.out.symm.trans hpe.out
    rw [if_neg h0] at hres
    simp only [Prod.mk.injEq] at hres
    obtain ⟨e1, e2, e3, e4⟩ := hres
    subst eR cR dnR kR
    clear hpe HR
    go_wp2_with (first
     | (go_at_call 103; refine hsgx.mono ?_; rintro e w7 ⟨rfl, hb7⟩)
     | (go_at_call 102; refine ((hwrx w7 hb7).mono (fun e w' h => And.intro (h.1.elim (fun k => absurd k.1 h0) (fun k => k.2)) h.2 : ∀ e w', _ → (e = .panicked (gaveS en) ∧ _))).mono ?_; rintro e w8 ⟨rfl, hp⟩))
    exact ⟨rfl, gs_no h0 rfl, hfinx w7 w8 hb7 hp⟩
end Go.Proofs.YtikkieaokfailaaGreatDoor

namespace Go.Proofs.YtikkieaokfailaaGreatDoor
open Go.RowKit Go.Joins
structure RcA (w : World) (H : Nat → Prop) (v : Value) (rs : List (List Int)) : Prop where
 ex : ∃ vs, w.ownsRow 0 29 1 v rs.length vs ∧ ∀ (i : Nat) r, rs[i]? = some r → ∃ u, vs[i]? = some u ∧ w.ownsRow 0 5 1 u r.length (bc r) ∧ (∀ g, u.ownBlock = some g → H g) ∧ Bd r
 own : ∀ g, v.ownBlock = some g → H g
theorem RcA.keep {S H H' : Nat → Prop} {w w' : World} {v : Value} {rs : List (List Int)} (h : RcA w H v rs) (hk : Keep S w w') (hs : ∀ i, H i → ¬ S i) (hH : ∀ i, H i → H' i) : RcA w' H' v rs := by
 obtain ⟨⟨vs, h1, h2⟩, h3⟩ := h
 refine ⟨⟨vs, own_keep h1 hk (fun g hg => hs g (h3 g hg)), fun i r hr => ?_⟩, fun g hg => hH g (h3 g hg)⟩
 obtain ⟨u, k1, k2, k3, k4⟩ := h2 i r hr
 exact ⟨u, k1, own_keep k2 hk (fun g hg => hs g (k3 g hg)), fun g hg => hH g (k3 g hg), k4⟩
theorem rcA_nil (w : World) (H : Nat → Prop) : RcA w H (.slice none 0 0) [] := ⟨⟨[], ⟨rfl, .inl ⟨rfl, rfl⟩⟩, fun i r h => by simp at h⟩, fun g h => by cases h⟩
theorem own_blkT {w : World} {B sz n : Nat} {t : TypeId} {v : Value} {xs : List Value} (h : w.ownsRow B t sz v n xs) {g : Nat} (hg : v.ownBlock = some g) : ∃ cur, w.heap[g]? = some (.cells cur t (0, 0)) := by
 rcases h.2 with ⟨rfl, _⟩ | ⟨g', cap, cur, rfl, _, hh, _⟩
 ·cases hg
 ·have e : g' = g := by simpa [Value.ownBlock] using hg
  subst e
  exact ⟨cur, hh⟩
theorem RcA.app {w w' : World} {H : Nat → Prop} {v v' u : Value} {rs : List (List Int)} {r : List Int} {vs : List Value} (h1 : w.ownsRow 0 29 1 v rs.length vs) (h2 : ∀ (i : Nat) r, rs[i]? = some r → ∃ u, vs[i]? = some u ∧ w.ownsRow 0 5 1 u r.length (bc r) ∧ (∀ g, u.ownBlock = some g → H g) ∧ Bd r)
  (ho : w'.ownsRow 0 29 1 v' (rs.length + 1) (vs ++ [u])) (hk : Keep (fun k => v.ownBlock = some k) w w') (hu : w.ownsRow 0 5 1 u r.length (bc r)) (huH : ∀ g, u.ownBlock = some g → H g) (hb : Bd r) (hv' : ∀ g, v'.ownBlock = some g → H g) : RcA w' H v' (rs ++ [r]) := by
 have hvl : vs.length = rs.length := by have := h1.1; simpa using this
 have hne : ∀ u2 (r2 : List Int), w.ownsRow 0 5 1 u2 r2.length (bc r2) → ∀ g, u2.ownBlock = some g → ¬ v.ownBlock = some g := fun u2 r2 h g hg hv => by
  obtain ⟨c1, e1⟩ := own_blkT h hg
  obtain ⟨c2, e2⟩ := own_blkT h1 hv
  rw [e1] at e2
  cases e2
 refine ⟨⟨vs ++ [u], by rw [List.length_append]; exact ho, fun i r' hr => ?_⟩, hv'⟩
 by_cases hi : i < rs.length
 ·rw [List.getElem?_append_left hi] at hr
  obtain ⟨u2, k1, k2, k3, k4⟩ := h2 i r' hr
  exact ⟨u2, by rw [List.getElem?_append_left (by omega)]; exact k1, own_keep k2 hk (hne u2 r' k2), k3, k4⟩
 ·have hi2 : i = rs.length := by
   have := (List.getElem?_eq_some_iff.1 hr).1
   simp at this
   omega
  subst hi2
  have hr' : r' = r := by simpa using hr.symm
  subst hr'
  exact ⟨u, by rw [← hvl]; simp, own_keep hu hk (hne u r' hu), huH, hb⟩
structure Lg where
 most : Nat
 recs : List (List Int)
 ch : Ch
 dn : Bool
structure LogAt (w : World) (F H : Nat → Prop) (lb d : Nat) (l : Lg) (k : Dk) : Prop where
 ex : ∃ v, LD w F lb d l.most v l.ch l.dn k ∧ RcA w H v l.recs
 hf : ∀ i, H i → ¬ F i
 hl : ¬ H lb
 lt : ∀ i, H i → i < w.heap.size
 pf : Pf w F lb
 ph : ∀ i, H i → 0 < i
theorem LogAt.below {w w' : World} {F H : Nat → Prop} {lb d : Nat} {l : Lg} {k : Dk} (h : LogAt w F H lb d l k) (hb : Below w.heap.size w w') : LogAt w' F H lb d l k := by
 obtain ⟨v, h1, h2⟩ := h.ex
 exact ⟨⟨v, h1.below hb, h2.keep (S := fun _ => False) (Keep.ofBelow hb) (fun _ _ h => h) (fun _ h => h)⟩, h.hf, h.hl, fun i hi => Nat.lt_of_lt_of_le (h.lt i hi) hb.size, h.pf.below hb, h.ph⟩
def Lgp (w : World) (F H : Nat → Prop) (lb d : Nat) (l : Lg) (k : Dk) (w' : World) : Prop := ∃ F' H', LogAt w' F' H' lb d l k ∧ Keep (fun i => F i ∨ H i ∨ i = lb) w w' ∧ (∀ i, F' i → F i ∨ w.heap.size ≤ i) ∧ (∀ i, H' i → H i ∨ w.heap.size ≤ i)
theorem Lgp.refl {w : World} {F H : Nat → Prop} {lb d : Nat} {l : Lg} {k : Dk} (h : LogAt w F H lb d l k) : Lgp w F H lb d l k w := ⟨F, H, h, Keep.refl _ _, fun _ h => Or.inl h, fun _ h => Or.inl h⟩
theorem Lgp.from {w0 w w' : World} {F H : Nat → Prop} {lb d : Nat} {l : Lg} {k : Dk} (hb : Below w0.heap.size w0 w) (h : Lgp w F H lb d l k w') : Lgp w0 F H lb d l k w' := by
 obtain ⟨F', H', h1, h2, h3, h4⟩ := h
 exact ⟨F', H', h1, (Keep.ofBelow hb).trans h2, fun i hi => (h3 i hi).imp id (fun h => Nat.le_trans hb.size h), fun i hi => (h4 i hi).imp id (fun h => Nat.le_trans hb.size h)⟩
theorem Lgp.err {w0 w1 : World} {o : Obj} {F H : Nat → Prop} {lb d : Nat} {l : Lg} {k : Dk} (h : Lgp (w0.alloc o) F H lb d l k w1) (hF : ∀ i, F i → i < w0.heap.size) (hH : ∀ i, H i → i < w0.heap.size) (hlb : lb < w0.heap.size) (hg : 0 < w0.heap.size) (v : Value) : Lgp w0 F H lb d l k (w1.setCell ⟨w0.heap.size, 0, none⟩ v) := by
 obtain ⟨F', H', h1, h2, h3, h4⟩ := h
 have hs : (w0.alloc o).heap.size = w0.heap.size + 1 := by simp
 have hk : Keep (fun k => k = w0.heap.size) w1 (w1.setCell ⟨w0.heap.size, 0, none⟩ v) := (Keep.refl (fun k => k = w0.heap.size) w1).setCell (p := ⟨w0.heap.size, 0, none⟩) rfl v
 have hnF : ∀ i, F' i → i ≠ w0.heap.size := fun i hi e => by
  rcases h3 i hi with h | h
  ·have := hF i h; omega
  ·omega
 have hnH : ∀ i, H' i → i ≠ w0.heap.size := fun i hi e => by
  rcases h4 i hi with h | h
  ·have := hH i h; omega
  ·omega
 obtain ⟨u, k1, k2⟩ := h1.ex
 refine ⟨F', H', ⟨⟨u, k1.keep hk hnF (by omega), k2.keep hk hnH (fun _ h => h)⟩, h1.hf, h1.hl, fun i hi => Nat.lt_of_lt_of_le (h1.lt i hi) hk.size, ⟨h1.pf.pw.keep hk (by omega), h1.pf.fl, h1.pf.ll⟩, h1.ph⟩, (((Keep.refl _ w0).alloc o).trans h2).setNew (Nat.le_refl _) v, fun i hi => (h3 i hi).imp id (fun h => by omega), fun i hi => (h4 i hi).imp id (fun h => by omega)⟩
theorem LogAt.own {w w' : World} {F H : Nat → Prop} {lb d : Nat} {l : Lg} {k k' : Dk} {v : Value} {c' : Ch} {dn' : Bool} (h : LogAt w F H lb d l k) (hv : RcA w H v l.recs) (hp : Lcp w F lb d l.most v dn' k' lb 3 c' c' w') :
  ∃ F', LD w' F' lb d l.most v c' dn' k' ∧ RcA w' H v l.recs ∧ Keep (fun i => F i ∨ H i ∨ i = lb) w w' ∧ (∀ i, F' i → F i ∨ w.heap.size ≤ i) ∧ (∀ i, H i → ¬ F' i) ∧ Pf w' F' lb ∧ ∀ i, H i → i < w'.heap.size := by
 obtain ⟨F', h1, h2, h3⟩ := hp
 have hL := h1.L
 rw [if_pos rfl] at hL
 have hk : Keep (fun i => F i ∨ i = lb) w w' := h2.mono (fun i hi => hi.elim Or.inl (fun h => Or.inr (h.elim id id)))
 refine ⟨F', hL, hv.keep hk (fun i hi hs => hs.elim (h.hf i hi) (fun e => h.hl (by rw [← e]; exact hi))) (fun _ h => h), hk.mono (fun i hi => hi.elim Or.inl (fun h => Or.inr (Or.inr h))), h3, fun i hi hf => ?_, h.pf.next hk h3, fun i hi => Nat.lt_of_lt_of_le (h.lt i hi) hk.size⟩
 rcases h3 i hf with h4 | h4
 ·exact h.hf i hi h4
 ·have := h.lt i hi; omega
theorem own_sl {w : World} {B sz n : Nat} {t : TypeId} {v : Value} {xs : List Value} (h : w.ownsRow B t sz v n xs) : ∃ a c, v = .slice a n c := by
 rcases h.2 with ⟨rfl, rfl⟩ | ⟨g, cap, cur, rfl, _⟩
 ·exact ⟨_, _, rfl⟩
 ·exact ⟨_, _, rfl⟩
theorem exec_appW {w w' : World} {o : Oper} {ρ : Operand → Value} {s x : Operand} {v u v' : Value} (ho : o.op = .call { callee := .builtin .append, args := #[s, x], argTypes := #[30, 30] }) (hs : ρ s = v) (hx : ρ x = u)
  (hrun : (Builtin.append_ #[30, 30] o.type #[v, u]).run Tryz.prog w = .ok v' w') : (execOp ρ o).run Tryz.prog w = .ok (.value v') w' := by
 simp only [execOp, ho, resolve, invoke, builtin, Sem.run_bind, Sem.run_pure, Result.andThen_ok, List.map_toArray, List.map_cons, List.map_nil, hs, hx, hrun]
theorem infoRow : (Tryz.prog.info? 29).map (fun i => (i.zero, i.size, i.bytes)) = some (some (.slice none 0 0), 1, 24) := by kernel_rfl
set_option maxRecDepth 100000 in
theorem app_whereW {w : World} {base : Nat} {v : Value} {n : Nat} {xs : List Value} (hown : w.ownsRow base 29 1 v n xs) {ad : Addr} {c : Nat} {u : Value} (hu : u.oneCell' = true) (hr : ∀ j x, [u][j]? = some x → w.cell? (ad.add j) = some x) (hb : n ≤ 1000000) {ty : TypeId} {v' : Value} {w' : World}
  (hrun : (Builtin.append_ #[30, 30] ty #[v, .slice (some ad) 1 c]).run Tryz.prog w = .ok v' w') : v'.ownBlock = v.ownBlock ∨ v'.ownBlock = some w.heap.size := by
 obtain ⟨i0, hi, hz0, hz1, hz2⟩ := info_parts infoRow
 have hl : [u].length = 1 * i0.size := by rw [hz1]; rfl
 rcases hown.2 with ⟨rfl, rfl⟩ | ⟨g, cap, cur, rfl, hbg, hg, hnc, hcm, hcs, htake⟩
 ·right
  have hr2 := run_append_nil (P := Tryz.prog) w 30 ty 29 i0 (.slice none 0 0) Tryz.underlying30 hi hz0 ad 1 c [u] hl hr (by omega) (by omega) (by rw [hz2]; omega)
  rw [hr2] at hrun
  injection hrun with e _
  rw [← e]; rfl
 ·by_cases hroom : n + 1 ≤ cap
  ·left
   have hr2 := run_append_room (P := Tryz.prog) w 30 ty 29 i0 Tryz.underlying30 hi g n cap cur hg ad 1 c [u] hl hr (by simpa using hu) hroom (by rw [hl, hcs, hz1]; omega)
   rw [hr2] at hrun
   injection hrun with e _
   rw [← e]; rfl
  ·right
   have hr2 := run_append_grow (P := Tryz.prog) w 30 ty 29 i0 (.slice none 0 0) Tryz.underlying30 hi hz0 ⟨g, 0, none⟩ n cap xs (by rw [hown.1, hz1]) (hown.cells (g := g) rfl) ad 1 c [u] hl hr (by omega) (by omega) (growslice_fits (by omega) (by rw [hz2]; omega))
   rw [hr2] at hrun
   injection hrun with e _
   rw [← e]; rfl
theorem run_appW {w : World} (ty : TypeId) {base : Nat} {v : Value} {n : Nat} {xs : List Value} (hown : w.ownsRow base 29 1 v n xs) (a : Option Addr) (m c : Nat) (hn : n ≤ 1000000) (hbase : base ≤ w.heap.size) :
  ∃ v' w', (Builtin.append_ #[30, 30] ty #[v, .slice (some ⟨w.heap.size, 0, none⟩) 1 1]).run Tryz.prog (w.alloc (.cells #[.slice a m c] 29)) = .ok v' w' ∧ w'.ownsRow base 29 1 v' (n + 1) (xs ++ [.slice a m c]) ∧ Keep (fun k => v.ownBlock = some k) w w' ∧ (v'.ownBlock = v.ownBlock ∨ ∃ g, v'.ownBlock = some g ∧ w.heap.size ≤ g) := by
 obtain ⟨i0, hi, hz0, hz1, hz2⟩ := info_parts infoRow
 have hk0 : Keep (fun k => v.ownBlock = some k) w (w.alloc (.cells #[.slice a m c] 29)) := (Keep.refl _ _).alloc _
 have hown1 := own_keep (S := fun _ => False) hown ((Keep.refl (fun _ => False) w).alloc (.cells #[.slice a m c] 29)) (fun _ _ h => h)
 have hnw : ∀ j u, [Value.slice a m c][j]? = some u → (w.alloc (.cells #[.slice a m c] 29)).cell? ((⟨w.heap.size, 0, none⟩ : Addr).add j) = some u := fun j u hu => by
  rw [add_flat, Nat.zero_add, cell_of_block (alloc_at w (.cells #[.slice a m c] 29))]
  simpa using hu
 obtain ⟨v', w', hrun, h2, h3, _⟩ := run_append_own (P := Tryz.prog) (w.alloc (.cells #[.slice a m c] 29)) base 30 ty 29 i0 (.slice none 0 0) 1 24 Tryz.underlying30 hi hz0 hz1 hz2 rfl (by decide) v n xs hown1 ⟨w.heap.size, 0, none⟩ 1 1 [.slice a m c] (by simp) hnw (by simp [Value.oneCell']) (by unfold maxLen; omega) (by omega) (by simp; omega)
 have h4 := app_whereW hown1 (by simp [Value.oneCell']) hnw hn hrun
 refine ⟨v', w', hrun, h2, hk0.trans (Keep.ofGrown h3), ?_⟩
 rcases h4 with h4 | h4
 ·exact Or.inl h4
 ·exact Or.inr ⟨_, h4, by simp⟩
end Go.Proofs.YtikkieaokfailaaGreatDoor
