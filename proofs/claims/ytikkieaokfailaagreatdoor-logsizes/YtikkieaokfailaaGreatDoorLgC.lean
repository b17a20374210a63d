/- Decimal numbers, and the names of segments. -/
import Derived.Test.YtikkieaokfailaaGreatDoorLgB
import Derived.Test.YtikkieaokfailaaGreatDoorShelfL
import Derived.Lib.ItoaMem
namespace Go.Proofs.YtikkieaokfailaaGreatDoor
open Go.RowKit Go.Joins Go.Sort

def Pw (w : World) : Prop := Lib.TabIs Tryz.prog w "internal/strconv.uint64pow10" .u64 Lib.pow10Tab
theorem Pw.at {w : World} (h : Pw w) : 0 < w.heap.size := by
  unfold Pw Lib.TabIs World.var? at h
  rw [show Tryz.prog.globalNamed "internal/strconv.uint64pow10" = some 0 from by kernel_rfl] at h
  simp only [Option.bind_some] at h
  rcases Nat.lt_or_ge 0 w.heap.size with h' | h'
  · exact h'
  · rw [Array.getElem?_eq_none h'] at h; cases h
theorem Pw.keep {S : Nat → Prop} {w w' : World} (h : Pw w) (hk : Keep S w w') (hs : ¬ S 0) : Pw w' := by
  have hlt := h.at
  unfold Pw Lib.TabIs World.var? at h ⊢
  rw [show Tryz.prog.globalNamed "internal/strconv.uint64pow10" = some 0 from by kernel_rfl] at h ⊢
  simp only [Option.bind_some] at h ⊢
  rw [hk.block 0 hlt hs]
  exact h
theorem Pw.below {w w' : World} (h : Pw w) (hb : Below w.heap.size w w') : Pw w' := h.keep (S := fun _ => False) (Keep.ofBelow hb) (fun h => h)

theorem grow_below (w : World) (k : Nat) (os : Array Obj) : Below w.heap.size w (grow (w.drewN k) os) := by
  refine ⟨rfl, rfl, rfl, ?_, fun j hj => ?_⟩
  · show w.heap.size ≤ (w.heap ++ os).size
    rw [Array.size_append]; omega
  · show (w.heap ++ os)[j]? = w.heap[j]?
    exact Array.getElem?_append_left hj
theorem itoa_any (N : Nat) (hN : N ≤ 9223372036854775807) (w : World) (hP : Pw w) : Calls Tryz.prog 140 #[.int .i64 (N : Int)] w fun e w' => e = .returned (.string ⟨(Lib.decDigits N).toArray⟩) ∧ Below w.heap.size w w' := by
  have h := Any.strconv_Itoa Tryz.laysM171 (N : Int) (by omega) (by omega) w hP
  rw [Lib.itoa_nonneg] at h
  refine h.mono ?_
  rintro e w' ⟨rfl, k, os, rfl⟩
  exact ⟨rfl, grow_below _ _ _⟩

/-- The new block's bytes are a row of zeros. -/
theorem holds_zero0 (w : World) (T : TypeId) (nd : Nat) (hs : nd ≤ 24) : Holds (fun (b : UInt8) => Value.int .u8 (b.toNat : Int)) (w.alloc (.cells Lib.zeros24 T)) w.heap.size 0 (Array.replicate nd (0 : UInt8)) := fun j hj => by
  have hj' : j < nd := by simpa using hj
  refine ⟨?_, World.frozen?_alloc_new _ _ _ _⟩
  rw [World.cell?_alloc_new, Lib.zeros24_at _ (by omega), getElem!_pos _ j hj]
  simp
theorem fin_pos0 (w : World) (o : Obj) (dk : Array UInt8) (k : Nat) : ∃ os, (putRow (fun (b : UInt8) => Value.int .u8 (b.toNat : Int)) (w.alloc o) w.heap.size 0 dk).drewN k = grow (w.drewN k) os := by
  rw [alloc_eq_grow]
  obtain ⟨os', _, e⟩ := putRow_grow_new (fun (b : UInt8) => Value.int .u8 (b.toNat : Int)) w #[o] w.heap.size 0 dk (Nat.le_refl _)
  exact ⟨os', by rw [e]; rfl⟩

set_option maxHeartbeats 6400000 in
set_option maxRecDepth 100000 in
theorem ifmt_any (u : Nat) (hu64 : u < 18446744073709551616) (w : World) (hP : Pw w) : Calls Tryz.prog 158 #[.int .u64 (u : Int), .int .i64 10] w fun e w' => e = .returned (.string ⟨(Lib.decDigits u).toArray⟩) ∧ Below w.heap.size w w' := by
  have hsm := fun (h : u < 100) => Any.internal_strconv_small Tryz.lays283 u h
  have hnd := fun (h : 1 ≤ u) w hP => Any.internal_strconv_numDigits Tryz.laysM284 u h hu64 w hP
  by_cases hs : u < 100
  · have hsm := hsm hs w
    have hlt : (u : Int) < 100 := by omega
    have hcv : IntKind.i64.wrap (u : Int) = (u : Int) := by rw [IntKind.wrap_i64]; omega
    clear hnd
    go_enter Tryz.func158, Tryz.ntmps158
    go_wp2_with (go_at_call 170; refine hsm.mono ?_; rintro e w' ⟨rfl, rfl⟩)
    go_ret
    exact ⟨rfl, Below.refl _ _⟩
  · have hu1 : 1 ≤ u := by omega
    have hnlt : ¬ (u : Int) < 100 := by omega
    have hnd20 : Lib.nDigits u ≤ 20 := by have := Lib.numDigits_eq u hu1 hu64; split at this <;> omega
    have hb3 : Lib.nDigits u ≤ 24 := by omega
    have hal : Tryz.prog.arrayLen 184 = 24 := by kernel_rfl
    obtain ⟨N, HN⟩ : ∃ N, Hid (Lib.nDigits u = N) := ⟨_, rfl⟩
    rw [HN.out] at hb3 hnd20
    have hsl1 : ∀ W, (Instr.sliceAt 184 (.pointer (some ⟨w.heap.size, 0, none⟩)) none (some (.int .i64 (N : Int))) none).run Tryz.prog W = .ok (.slice (some ⟨w.heap.size, 0, none⟩) N 24) W := fun W => by
      rw [run_sliceAt_array_h W 184 ⟨w.heap.size, 0, none⟩ (by simp [Program.arrayLen, Program.elem, Tryz.underlying184]) .i64 (N : Int) (by omega) (by rw [hal]; omega)]
      go_simp
    have hH0 := holds_zero0 w 184 N (by omega)
    have hfmt := Any.internal_strconv_formatBase10 Tryz.lays285 w.heap.size 0 24 u (Array.replicate N 0) (w.alloc (.cells Lib.zeros24 184)) hH0 (by rw [Array.size_replicate, ← HN.out]; exact Lib.lt_pow_nDigits u) hu64 (by rw [Array.size_replicate]; omega)
    rw [Array.size_replicate] at hfmt
    have HH0 := Lib.hid hH0
    have hnd2 := hnd hu1 (w.alloc (.cells Lib.zeros24 184)) (Lib.tabIs_alloc hP _)
    rw [HN.out] at hnd2
    clear hH0 hal hnd hsm
    go_enter Tryz.func158, Tryz.ntmps158
    go_upto_region 6 with (first
      | (go_at_call 171; refine hnd2.mono ?_; rintro e w' ⟨rfl, rfl⟩))
    go_wp2_with (first
      | (go_at_call 172; refine hfmt.mono ?_; rintro e w' ⟨rfl, k, v', dk, rfl, hF⟩
         have hcv : (convert 29 9 (.slice (some ⟨w.heap.size, 0, none⟩) N 24)).run Tryz.prog ((putRow (fun (b : UInt8) => Value.int .u8 (b.toNat : Int)) (w.alloc (.cells Lib.zeros24 184)) w.heap.size 0 dk).drewN k) = .ok (.string ⟨(Lib.decDigits u).toArray⟩) ((putRow (fun (b : UInt8) => Value.int .u8 (b.toNat : Int)) (w.alloc (.cells Lib.zeros24 184)) w.heap.size 0 dk).drewN k) := (by
           have hFu : Lib.FmtInv (Lib.nDigits u) u 0 v' dk := by rw [HN.out]; exact hF
           have h := run_convert_bytes_back (P := Tryz.prog) ((putRow (fun (b : UInt8) => Value.int .u8 (b.toNat : Int)) (w.alloc (.cells Lib.zeros24 184)) w.heap.size 0 dk).drewN k) 29 9 5 ⟨w.heap.size, 0, none⟩ 24 (Lib.decDigits u) Tryz.underlying29 Tryz.underlying5 Tryz.underlying9 (fun j hj => by
             rw [Lib.row_is_numeral hFu j hj, Lib.add_plain, World.cell?_drewN]
             exact cell?_putRow (fun (b : UInt8) => Value.int .u8 (b.toNat : Int)) _ w.heap.size 0 _ dk HH0.out (by rw [hF.size, Array.size_replicate]) j (by rw [hF.size]; rw [Lib.decDigits_length, HN.out] at hj; exact hj))
           rw [Lib.decDigits_length, HN.out] at h
           exact h)))
    go_ret
    obtain ⟨os, eo⟩ := fin_pos0 w (.cells Lib.zeros24 184) dk k
    refine ⟨rfl, ?_⟩
    rw [eo]
    exact grow_below _ _ _
theorem fmt_any (u : Nat) (hu64 : u < 18446744073709551616) (w : World) (hP : Pw w) : Calls Tryz.prog 139 #[.int .u64 (u : Int), .int .i64 10] w fun e w' => e = .returned (.string ⟨(Lib.decDigits u).toArray⟩) ∧ Below w.heap.size w w' := by
  have h := ifmt_any u hu64 w hP
  obtain ⟨T, HT⟩ : ∃ T, (⟨(Lib.decDigits u).toArray⟩ : ByteArray) = T := ⟨_, rfl⟩
  rw [HT] at h ⊢
  go_enter Tryz.func139, Tryz.ntmps139
  go_wp2_with (go_at_call 158; refine h.mono ?_; rintro e w' ⟨rfl, hb⟩)
  go_ret
  exact ⟨rfl, hb⟩

/-- The name of a segment. -/
def segN (g i : Nat) : Nm := ⟨([108, 111, 103, 45] ++ Lib.decDigits g ++ [45] ++ Lib.decDigits i).toArray⟩
theorem dig_len20 (u : Nat) (h : u < 18446744073709551616) : (Lib.decDigits u).length ≤ 20 := by
  rw [Lib.decDigits_length]
  by_cases h1 : 1 ≤ u
  · have := Lib.numDigits_eq u h1 h; split at this <;> omega
  · have : u = 0 := by omega
    subst this
    decide +kernel
theorem add_bytes (a b : List UInt8) : ((⟨a.toArray⟩ : ByteArray) ++ (⟨b.toArray⟩ : ByteArray)) = ⟨(a ++ b).toArray⟩ := by
  apply ByteArray.ext
  rw [ByteArray.data_append]
  simp
set_option maxHeartbeats 1000000 in
theorem segment_any (b off g i : Nat) (hg : g < 18446744073709551616) (hi : i ≤ 9223372036854775807) (w : World) (hP : Pw w) (hc : w.cell? ⟨b, off, none⟩ = some (.int .u64 (g : Int))) :
    Calls Tryz.prog 103 #[.pointer (some ⟨b, off, none⟩), .int .i64 (i : Int)] w fun e w' => e = .returned (.string (segN g i)) ∧ Below w.heap.size w w' := by
  have h1 := fmt_any g hg w hP
  have h2 := fun w hP => itoa_any i hi w hP
  have l1 := dig_len20 g hg
  have l2 := dig_len20 i (by omega)
  obtain ⟨Dg, HG⟩ : ∃ D, Hid (Lib.decDigits g = D) := ⟨_, rfl⟩
  obtain ⟨Di, HI⟩ : ∃ D, Hid (Lib.decDigits i = D) := ⟨_, rfl⟩
  have hs : segN g i = ⟨([108, 111, 103, 45] ++ Dg ++ [45] ++ Di).toArray⟩ := by unfold segN; rw [HG.out, HI.out]
  rw [HG.out] at h1 l1
  rw [HI.out] at l2
  simp only [HI.out] at h2
  rw [hs]
  clear hs
  obtain ⟨T1, HT1⟩ : ∃ T, Hid ((⟨Dg.toArray⟩ : ByteArray) = T) := ⟨_, rfl⟩
  obtain ⟨T2, HT2⟩ : ∃ T, Hid ((⟨Di.toArray⟩ : ByteArray) = T) := ⟨_, rfl⟩
  have s1 : T1.size ≤ 20 := by rw [← HT1.out]; show Dg.toArray.size ≤ 20; simpa using l1
  have s2 : T2.size ≤ 20 := by rw [← HT2.out]; show Di.toArray.size ≤ 20; simpa using l2
  have HE : Hid (((⟨#[108, 111, 103, 45]⟩ : ByteArray) ++ T1) ++ (⟨#[45]⟩ : ByteArray) ++ T2 = ⟨([108, 111, 103, 45] ++ Dg ++ [45] ++ Di).toArray⟩) := by
    show _ = _
    rw [← HT1.out, ← HT2.out]
    have e1 : (⟨#[108, 111, 103, 45]⟩ : ByteArray) = ⟨([108, 111, 103, 45] : List UInt8).toArray⟩ := rfl
    have e2 : (⟨#[45]⟩ : ByteArray) = ⟨([45] : List UInt8).toArray⟩ := rfl
    rw [e1, e2, add_bytes, add_bytes, add_bytes]
  rw [HT1.out] at h1
  simp only [HT2.out] at h2
  rw [← HE.out]
  clear l1 l2 HE
  go_enter Tryz.func103, Tryz.ntmps103
  go_wp2_with (first
    | (go_at_call 139; refine h1.mono ?_; rintro e w1 ⟨rfl, hb1⟩)
    | (go_at_call 140; refine (h2 _ (hP.below hb1)).mono ?_; rintro e w2 ⟨rfl, hb2⟩))
  go_ret
  exact ⟨rfl, hb1.trans (hb2.mono hb1.size)⟩

/-- The table lies below all that the log has. -/
structure Pf (w : World) (F : Nat → Prop) (lb : Nat) : Prop where
  pw : Pw w
  fl : ∀ i, F i → 0 < i
  ll : 0 < lb
theorem Pf.next {w w' : World} {F F' : Nat → Prop} {lb : Nat} (h : Pf w F lb) (hk : Keep (fun i => F i ∨ i = lb) w w') (hF : ∀ i, F' i → F i ∨ w.heap.size ≤ i) : Pf w' F' lb := by
  refine ⟨h.pw.keep hk (fun hs => ?_), fun i hi => ?_, h.ll⟩
  · rcases hs with hs | hs
    · have := h.fl _ hs; omega
    · have := h.ll; omega
  · rcases hF i hi with h1 | h1
    · exact h.fl i h1
    · have := h.pw.at; omega
theorem Pf.below {w w' : World} {F : Nat → Prop} {lb : Nat} (h : Pf w F lb) (hb : Below w.heap.size w w') : Pf w' F lb := ⟨h.pw.below hb, h.fl, h.ll⟩

end Go.Proofs.YtikkieaokfailaaGreatDoor
