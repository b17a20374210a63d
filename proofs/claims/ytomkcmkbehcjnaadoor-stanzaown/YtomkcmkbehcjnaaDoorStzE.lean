/- stanza.Write: what Check refuses; else the form. -/
import Derived.Test.YtomkcmkbehcjnaaDoorStzD
namespace Go.Proofs.YtomkcmkbehcjnaaDoor
open Go.RowKit

/-- The parts that are there, one behind the other. -/
def wpt (bs : List Bool) (p : Nat → List Int) : Nat → List Int
  | 0 => []
  | k + 1 => wpt bs p k ++ (if bs.getD k false = true then p k else [])
/-- The form of a stanza. -/
def wform (K : Int) (I : Nat) (A B T : ByteArray) (L : List ByteArray) (N : Int) (F : Nat) : List Int :=
  form K.toNat ++ form I ++ [((thr A B T L.length N F : Nat) : Int)] ++ wpt (tbits A B T L.length N F) (pf A B T L N F) 6

theorem and_bit0 (a b c d e f : Bool) : (bits .and .u8 ((bsum [a, b, c, d, e, f] 1 : Nat) : Int) 1 != 0) = a := by revert a b c d e f; decide +kernel
theorem and_bit1 (a b c d e f : Bool) : (bits .and .u8 ((bsum [a, b, c, d, e, f] 1 : Nat) : Int) 2 != 0) = b := by revert a b c d e f; decide +kernel
theorem and_bit2 (a b c d e f : Bool) : (bits .and .u8 ((bsum [a, b, c, d, e, f] 1 : Nat) : Int) 4 != 0) = c := by revert a b c d e f; decide +kernel
theorem and_bit3 (a b c d e f : Bool) : (bits .and .u8 ((bsum [a, b, c, d, e, f] 1 : Nat) : Int) 8 != 0) = d := by revert a b c d e f; decide +kernel
theorem and_bit4 (a b c d e f : Bool) : (bits .and .u8 ((bsum [a, b, c, d, e, f] 1 : Nat) : Int) 16 != 0) = e := by revert a b c d e f; decide +kernel
theorem and_bit5 (a b c d e f : Bool) : (bits .and .u8 ((bsum [a, b, c, d, e, f] 1 : Nat) : Int) 32 != 0) = f := by revert a b c d e f; decide +kernel

theorem ixo_0 (a b c d e f : Value) (w : World) : (Instr.index 62 (.agg #[a, b, c, d, e, f]) (.int .i64 0)).run Tryd.prog w = .ok a w := by kernel_rfl
theorem ixo_1 (a b c d e f : Value) (w : World) : (Instr.index 62 (.agg #[a, b, c, d, e, f]) (.int .i64 1)).run Tryd.prog w = .ok b w := by kernel_rfl
theorem ixo_2 (a b c d e f : Value) (w : World) : (Instr.index 62 (.agg #[a, b, c, d, e, f]) (.int .i64 2)).run Tryd.prog w = .ok c w := by kernel_rfl
theorem ixo_3 (a b c d e f : Value) (w : World) : (Instr.index 62 (.agg #[a, b, c, d, e, f]) (.int .i64 3)).run Tryd.prog w = .ok d w := by kernel_rfl
theorem ixo_4 (a b c d e f : Value) (w : World) : (Instr.index 62 (.agg #[a, b, c, d, e, f]) (.int .i64 4)).run Tryd.prog w = .ok e w := by kernel_rfl
theorem ixo_5 (a b c d e f : Value) (w : World) : (Instr.index 62 (.agg #[a, b, c, d, e, f]) (.int .i64 5)).run Tryd.prog w = .ok f w := by kernel_rfl

/-- What Check lets through. -/
theorem terr1_le {s : ByteArray} (h : terr1 s = 0) : s.size ≤ 1024 := by
  unfold terr1 at h; split at h
  · cases h
  · omega
theorem terrs_le : ∀ {ss : List ByteArray}, terrs ss = 0 → ∀ s ∈ ss, s.size ≤ 1024
  | [], _, s, hs => by cases hs
  | x :: r, h, s, hs => by
    by_cases h1 : terr1 x = 0
    · rw [terrs_pass h1] at h
      rcases List.mem_cons.1 hs with rfl | g
      · exact terr1_le h1
      · exact terrs_le h s g
    · rw [terrs_stop h1] at h; exact absurd h h1
theorem chk_ok {K : Int} {A B T : ByteArray} {L : List ByteArray} {N : Int} {F : Nat} (h : chk K A B T L N F = 0) : kn K = true ∧ A.size ≤ 1024 ∧ B.size ≤ 1024 ∧ T.size ≤ 1024 ∧ L.length ≤ 64 ∧ ∀ s ∈ L, s.size ≤ 1024 := by
  unfold chk at h
  split at h
  · cases h
  · rename_i hk
    split at h
    · cases h
    · split at h
      · rename_i h3; exact absurd h h3
      · rename_i h3
        have h3' : terrs [A, B, T] = 0 := by omega
        split at h
        · cases h
        · rename_i h64
          have a3 := terrs_le h3'
          exact ⟨by simpa using hk, a3 A (by simp), a3 B (by simp), a3 T (by simp), by omega, terrs_le h⟩

/-- What the loop holds. -/
structure WrS (w1 : World) (b : Nat) (K : Int) (I : Nat) (A B T : ByteArray) (la : Option Addr) (ln lc : Nat) (N : Int) (F : Nat) (L : List ByteArray) (wr : World) : Prop where
  bel : Below w1.heap.size w1 wr
  sz : SzAt wr b K I A B T la ln lc N F
  lay : Lays wr
  lst : SRd wr la ln lc L

theorem WrS.of {w1 : World} {b : Nat} {K : Int} {I : Nat} {A B T : ByteArray} {la : Option Addr} {ln lc : Nat} {N : Int} {F : Nat} {L : List ByteArray} {wr' : World} (h : WrS w1 b K I A B T la ln lc N F L w1) (k : Below w1.heap.size w1 wr') : WrS w1 b K I A B T la ln lc N F L wr' :=
  ⟨k, h.sz.carry k, h.lay.carry k, h.lst.carry k⟩

theorem append_tail {w w2 w3 : World} {base : Nat} {v : Value} {X Y : List Int} {n2 : Nat} (hb : Below base w w2) (hB : base ≤ w2.heap.size) (hown2 : w2.ownsRow base 5 1 v X.length (bc X)) (hg3 : w2.grownBy w3 v.ownBlock) (hl : Y.length = n2) {v3 : Value} (hown3 : w3.ownsRow base 5 1 v3 (X.length + n2) (bc (X ++ Y))) :
    w3.ownsRow base 5 1 v3 (X ++ Y).length (bc (X ++ Y)) ∧ Below base w w3 := by
  refine ⟨?_, hb.grown hg3 hB (fun q hq => (hown2.lt q hq).1)⟩
  rw [List.length_append, hl]; exact hown3

theorem lform_len {L : List ByteArray} (hn : L.length ≤ 64) (hs : ∀ s ∈ L, s.size ≤ 1024) : (lform L).length ≤ 66186 := by
  unfold lform; rw [List.length_append]
  have := form_len10 L.length (by omega)
  have := texts_len L hs
  omega

theorem pf_len {A B T : ByteArray} {L : List ByteArray} {N : Int} {F : Nat} (hA : A.size ≤ 1024) (hB : B.size ≤ 1024) (hT : T.size ≤ 1024) (hn : L.length ≤ 64) (hs : ∀ s ∈ L, s.size ≤ 1024) (h0 : -9223372036854775808 ≤ N) (h1 : N ≤ 9223372036854775807) (k : Nat) : (pf A B T L N F k).length ≤ if k = 3 then 66186 else 1034 := by
  match k with
  | 0 => exact tform_len A hA
  | 1 => exact tform_len B hB
  | 2 => exact tform_len T hT
  | 3 => exact lform_len hn hs
  | 4 => have := form_len10 _ (fold_lt N h0 h1); simp only [pf]; rw [if_neg (by omega)]; omega
  | k + 5 => simp only [pf]; rw [fbl_len]; split <;> omega
theorem wpt_len {bs : List Bool} {p : Nat → List Int} (h : ∀ k, (p k).length ≤ if k = 3 then 66186 else 1034) : ∀ k, (wpt bs p k).length ≤ 1034 * k + if 3 < k then 65152 else 0
  | 0 => by simp [wpt]
  | k + 1 => by
    have ih := wpt_len (bs := bs) h k
    have := h k
    rw [wpt, List.length_append]
    have hi : (if bs.getD k false = true then p k else []).length ≤ (p k).length := by split <;> simp
    generalize (if bs.getD k false = true then p k else []).length = z at hi ⊢
    by_cases h3 : k = 3
    · subst h3
      rw [if_pos rfl] at this
      rw [if_neg (by omega)] at ih
      rw [if_pos (by omega)]
      omega
    · rw [if_neg h3] at this
      by_cases h4 : 3 < k
      · rw [if_pos h4] at ih; rw [if_pos (by omega)]; omega
      · rw [if_neg h4] at ih; rw [if_neg (by omega)]; omega
theorem wpt_len6 {bs : List Bool} {p : Nat → List Int} (h : ∀ k, (p k).length ≤ if k = 3 then 66186 else 1034) {k : Nat} (hk : k ≤ 6) : (wpt bs p k).length ≤ 71356 := by
  have := wpt_len (bs := bs) h k
  split at this <;> omega

set_option maxHeartbeats 800000 in
theorem write_bad (K : Int) (I : Nat) (A B T : ByteArray) (la : Option Addr) (ln lc : Nat) (N : Int) (F : Nat) (L : List ByteArray) (w : World) (hL : Lays w) (hR : SRd w la ln lc L) (hA : A.size ≤ 9223372036854775807) (hB : B.size ≤ 9223372036854775807) (hT : T.size ≤ 9223372036854775807) (hc : chk K A B T L N F ≠ 0) :
    Calls Tryd.prog 9 #[.agg #[.int .i64 K, .int .u64 I, .string A, .string B, .string T, .slice la ln lc, .int .i64 N, .float .f64 F]] w fun e w' => e = .returned (.tuple #[.slice none 0 0, .int .i64 ((chk K A B T L N F : Nat) : Int)]) ∧ Below w.heap.size w w' := by
  have hb1 : Below w.heap.size w (w.alloc (.cells #[.int .i64 K, .int .u64 I, .string A, .string B, .string T, .slice la ln lc, .int .i64 N, .float .f64 F] 26)) := (Below.refl _ _).alloc (Nat.le_refl _) _
  have cC := check_any K I A B T la ln lc N F L _ (hL.carry hb1) (hR.carry hb1) hA hB hT
  generalize chk K A B T L N F = x at hc cC
  have hx : ((x : Int) != 0) = true := by simp; omega
  clear hc
  go_enter Tryd.func9, Tryd.ntmps9
  go_wp2_with (go_at_call 11; refine cC.mono ?_; rintro e w2 ⟨rfl, hb2⟩)
  go_ret2
  exact ⟨rfl, hb1.trans (hb2.mono hb1.size)⟩

set_option maxHeartbeats 3200000 in
theorem write_ok (K : Int) (I : Nat) (A B T : ByteArray) (la : Option Addr) (ln lc : Nat) (N : Int) (F : Nat) (L : List ByteArray) (w : World) (hL : Lays w) (hR : SRd w la ln lc L) (hI : I < 18446744073709551616) (hN0 : -9223372036854775808 ≤ N) (hN1 : N ≤ 9223372036854775807) (hF : F < 18446744073709551616) (hc : chk K A B T L N F = 0) :
    Calls Tryd.prog 9 #[.agg #[.int .i64 K, .int .u64 I, .string A, .string B, .string T, .slice la ln lc, .int .i64 N, .float .f64 F]] w fun e w' => ∃ v, e = .returned (.tuple #[v, .int .i64 0]) ∧ w'.ownsRow w.heap.size 5 1 v (wform K I A B T L N F).length (bc (wform K I A B T L N F)) ∧ Below w.heap.size w w' := by
  obtain ⟨hk, hA, hB, hT, hn, hs⟩ := chk_ok hc
  have hln := hR.len
  have hb1 : Below w.heap.size w (w.alloc (.cells #[.int .i64 K, .int .u64 I, .string A, .string B, .string T, .slice la ln lc, .int .i64 N, .float .f64 F] 26)) := (Below.refl _ _).alloc (Nat.le_refl _) _
  have hz1 : (w.alloc (.cells #[.int .i64 K, .int .u64 I, .string A, .string B, .string T, .slice la ln lc, .int .i64 N, .float .f64 F] 26)).heap.size = w.heap.size + 1 := by simp
  have cC := check_any K I A B T la ln lc N F L _ (hL.carry hb1) (hR.carry hb1) (by omega) (by omega) (by omega)
  rw [hc] at cC
  have S1 : WrS (w.alloc (.cells #[.int .i64 K, .int .u64 I, .string A, .string B, .string T, .slice la ln lc, .int .i64 N, .float .f64 F] 26)) w.heap.size K I A B T la ln lc N F L (w.alloc (.cells #[.int .i64 K, .int .u64 I, .string A, .string B, .string T, .slice la ln lc, .int .i64 N, .float .f64 F] 26)) := ⟨Below.refl _ _, SzAt.new w, hL.carry hb1, hR.carry hb1⟩
  obtain ⟨kk, rfl, hkk⟩ : ∃ kk : Nat, K = (kk : Int) ∧ kk < 47 := ⟨K.toNat, by have := kn_bd hk; omega, by have := kn_bd hk; omega⟩
  have hw64 : IntKind.u64.wrap (kk : Int) = (kk : Int) := by rw [IntKind.wrap_u64]; omega
  clear hc hk
  go_enter Tryd.func9, Tryd.ntmps9
  generalize hW1 : w.alloc (.cells #[.int .i64 (kk : Int), .int .u64 I, .string A, .string B, .string T, .slice la ln lc, .int .i64 N, .float .f64 F] 26) = W1 at S1 cC hb1 hz1
  have HW1 : Hid (w.alloc (.cells #[.int .i64 (kk : Int), .int .u64 I, .string A, .string B, .string T, .slice la ln lc, .int .i64 N, .float .f64 F] 26) = W1) := hW1
  clear hW1
  have HZ1 : Hid (W1.heap.size = w.heap.size + 1) := hz1
  clear hz1
  obtain ⟨i0, hi, hi0, hi1, hi2⟩ := info_parts Tryd.info5
  have hfk := form_len10 kk (by omega)
  have hfI := form_len10 I hI
  go_upto_region 5 with (first
    | (go_at_call 11; rw [HW1.out]; refine cC.mono ?_; rintro e w2 ⟨rfl, hb2⟩; have S2 := S1.of hb2; obtain ⟨q0, q1, q2, q3, q4, q5, q6, q7⟩ := S2.sz)
    | (go_at_call 25; refine (there_any _ I A B T la ln lc N F _ S2.lay).mono ?_; rintro e w3 ⟨rfl, hb3⟩; have S3 := S1.of (hb2.trans (hb3.mono hb2.size)); clear q0 q1 q2 q3 q4 q5 q6 q7 S2 hb2 hb3 cC))
  have HT : Hid (thr A B T ln N F = bsum [!A.toList.isEmpty, !B.toList.isEmpty, !T.toList.isEmpty, decide (0 < ln), N != 0, F != 0] 1) := rfl
  have ht64 := thr_lt A B T ln N F
  generalize hth : thr A B T ln N F = th at HT ht64 ⊢
  have HTH : Hid (thr A B T ln N F = th) := hth
  clear hth
  obtain ⟨q0, q1, q2, q3, q4, q5, q6, q7⟩ := S3.sz
  have hs3 := S3.bel.size
  have cU := putUint_any none 0 0 [] kk w3 (rd_nil w3) (by omega) (by omega)
  simp only [Nat.zero_add, List.nil_append] at cU
  have tok : True := trivial
  go_upto_region 7 with (first
    | (go_at_call 26; clear tok; refine cU.mono ?_; rintro e w4 ⟨v4, rfl, hown4, hb4⟩; have S4 := S1.of (S3.bel.trans (hb4.mono hs3)); replace hown4 := own_weaken hown4 hs3; have hs4 := S4.bel.size; have u1 := S4.sz.c1)
    | (go_at_call 26; refine (putNil I _ hI).mono ?_; rintro e w5 ⟨a5, c5, rfl, hr5, hb5⟩; have hown5 := own_bel hown4 hb5; have hb5' := S4.bel.trans (hb5.mono hs4); have hs5 := hb5'.size)
    | (at_builtin; refine wp_app rfl _ _ rfl W1.heap.size _ _ _ rfl hown5 a5 _ c5 _ rfl hr5 (by omega) hs5 ?_; intro v6 w6 hown6 hg6))
  obtain ⟨hown6', hb6⟩ := append_tail hb5' hs5 hown5 hg6 rfl hown6
  clear cU hown4 hown5 hown6 hg6 hr5 hb5 hb5' S3 S4 q0 q1 q2 q3 q4 q5 q6 q7 u1 hw64 hb4
  have hl6 : (form kk ++ form I).length ≤ 20 := by rw [List.length_append]; omega
  have hs6 := hb6.size
  generalize hX6 : form kk ++ form I = X6 at hown6' hl6
  have HX6 : Hid (form kk ++ form I = X6) := hX6
  clear hX6
  go_upto_region 8 with (first
    | (at_builtin; refine wpList_append_own _ rfl _ _ 28 rfl W1.heap.size 5 i0 (.int .u8 0) 1 1 Tryd.underlying28 hi hi0 hi1 hi2 rfl (by decide) _ _ _ rfl (hown6'.alloc _) ⟨w6.heap.size, 0, none⟩ 1 1 [.int .u8 (th : Int)] rfl rfl (cell_one_new _ _ _) (by simp [Value.oneCell']) (by unfold maxLen; omega) (by omega) (by simp; omega) ?_))
  intro v7 w7 hown7 hg7 _
  have hb7 : Below W1.heap.size W1 w7 := below_step hb6 hs6 hown6' hg7
  have hown7' := own_snoc hown7
  clear hown7 hg7 hown6' hb6
  have S7 := S1.of hb7
  have o0 : w7.cell? ⟨0, 0, none⟩ = some (.int .u8 1) := S7.lay.ord 0 (by omega)
  have o1 : w7.cell? ⟨0, 1, none⟩ = some (.int .u8 2) := S7.lay.ord 1 (by omega)
  have o2 : w7.cell? ⟨0, 2, none⟩ = some (.int .u8 4) := S7.lay.ord 2 (by omega)
  have o3 : w7.cell? ⟨0, 3, none⟩ = some (.int .u8 8) := S7.lay.ord 3 (by omega)
  have o4 : w7.cell? ⟨0, 4, none⟩ = some (.int .u8 16) := S7.lay.ord 4 (by omega)
  have o5 : w7.cell? ⟨0, 5, none⟩ = some (.int .u8 32) := S7.lay.ord 5 (by omega)
  have hpl := @pf_len A B T L N F hA hB hT hn hs hN0 hN1
  have HW : Hid (wform (kk : Int) I A B T L N F = X6 ++ [(th : Int)] ++ wpt (tbits A B T ln N F) (pf A B T L N F) 6) := by
    unfold wform; rw [Int.toNat_natCast, hln, HX6.out, HTH.out]; rfl
  have HP0 : Hid (pf A B T L N F 0 = tform A) := rfl
  have HP1 : Hid (pf A B T L N F 1 = tform B) := rfl
  have HP2 : Hid (pf A B T L N F 2 = tform T) := rfl
  have HP3 : Hid (pf A B T L N F 3 = lform L) := rfl
  have HP4 : Hid (pf A B T L N F 4 = form (foldv N)) := rfl
  have HP5 : Hid (pf A B T L N F 5 = fbl (bitsv F) 8) := rfl
  have HL7 : Hid ((X6 ++ [(th : Int)]).length ≤ 21) := (by rw [List.length_append]; exact Nat.succ_le_succ hl6 : (X6 ++ [(th : Int)]).length ≤ 21)
  generalize X6 ++ [(th : Int)] = X7 at hown7' HW HL7
  unfold tbits at HW
  generalize pf A B T L N F = p at HW HP0 HP1 HP2 HP3 HP4 HP5 hpl
  generalize (!A.toList.isEmpty) = b0 at HT HW
  generalize (!B.toList.isEmpty) = b1 at HT HW
  generalize (!T.toList.isEmpty) = b2 at HT HW
  generalize (decide (0 < ln)) = b3 at HT HW
  generalize (N != 0) = b4 at HT HW
  generalize (F != 0) = b5 at HT HW
  clear HTH HX6 hl6 hfk hfI hL hR
  go_wp2
  go_loopw [6, 30] (fun v i wr => ∃ k : Nat, k ≤ 6 ∧ i = .int .i64 k ∧ wr.ownsRow W1.heap.size 5 1 v (X7 ++ wpt [b0, b1, b2, b3, b4, b5] p k).length (bc (X7 ++ wpt [b0, b1, b2, b3, b4, b5] p k)) ∧ Below W1.heap.size W1 wr) (fun _ i _ => 6 - (intOf i).toNat)
  case atStart => exact ⟨0, by omega, rfl, by simpa [wpt] using hown7', hb7⟩
  case round =>
    obtain ⟨k, hk, rfl, hown, hb⟩ := hrel
    clear o0 o1 o2 o3 o4 o5 S7 hown7' hb7
    have x0 := ixo_0; have x1 := ixo_1; have x2 := ixo_2; have x3 := ixo_3; have x4 := ixo_4; have x5 := ixo_5
    have HLk : Hid ((wpt [b0, b1, b2, b3, b4, b5] p k).length ≤ 71356) := wpt_len6 hpl hk
    have hsz := hb.size
    have S8 := S1.of hb
    have hcase : k = 0 ∨ k = 1 ∨ k = 2 ∨ k = 3 ∨ k = 4 ∨ k = 5 ∨ k = 6 := by omega
    rcases hcase with rfl | rfl | rfl | rfl | rfl | rfl | rfl
    · have hbit : (bits .and .u8 (th : Int) 1 != 0) = b0 := by rw [HT.out]; exact and_bit0 ..
      cases b0 with
      | true =>
        obtain ⟨q0, q1, q2, q3, q4, q5, q6, q7⟩ := S8.sz
        have HN : Hid (wpt ([true, b1, b2, b3, b4, b5]) p 1 = wpt ([true, b1, b2, b3, b4, b5]) p 0 ++ p 0) := rfl
        have hlp := hpl 0
        have HL8 : Hid ((X7 ++ wpt ([true, b1, b2, b3, b4, b5]) p 0).length ≤ 80000) := (by rw [List.length_append]; have := HL7.out; have := HLk.out; omega : (X7 ++ wpt ([true, b1, b2, b3, b4, b5]) p 0).length ≤ 80000)
        generalize hX8 : X7 ++ wpt ([true, b1, b2, b3, b4, b5]) p 0 = X8 at hown HL8
        have HX8 : Hid (X7 ++ wpt ([true, b1, b2, b3, b4, b5]) p 0 = X8) := hX8
        clear hX8
        rw [HP0.out] at hlp
        have hl8 := HL8.out
        simp at hlp
        go_wp2_with (first
          | (go_at_call 27; refine (partForm_0 _ I A B T la ln lc N F _ hA).mono ?_; rintro e w9 ⟨a9, n9, c9, rfl, hr9, hb9⟩; have hn9 := hr9.len; have hown9 := own_bel hown hb9; have hb9' := hb.trans (hb9.mono hsz); have hs9 := hb9'.size)
          | (at_builtin; refine wp_app rfl _ _ rfl W1.heap.size _ _ _ rfl hown9 a9 n9 c9 _ rfl hr9 (by omega) hs9 ?_; intro v10 w10 hown10 hg10))
        obtain ⟨hown10', hb10⟩ := append_tail hb9' hs9 hown9 hg10 hn9 hown10
        clear hown hown9 hown10 hg10 hb hb9 hb9' hr9 q0 q1 q2 q3 q4 q5 q6 q7 S8 hn9
        go_wp2
        go_roundw
        case rel => exact ⟨1, by omega, by go_num, by rw [HN.out, ← List.append_assoc, HX8.out, HP0.out]; exact hown10', hb10⟩
        case measure => simp [intOf]
      | false =>
        have HN : Hid (wpt ([false, b1, b2, b3, b4, b5]) p 1 = wpt ([false, b1, b2, b3, b4, b5]) p 0) := List.append_nil _
        go_wp2
        go_roundw
        case rel => exact ⟨1, by omega, by go_num, by rw [HN.out]; exact hown, hb⟩
        case measure => simp [intOf]
    · have hbit : (bits .and .u8 (th : Int) 2 != 0) = b1 := by rw [HT.out]; exact and_bit1 ..
      cases b1 with
      | true =>
        obtain ⟨q0, q1, q2, q3, q4, q5, q6, q7⟩ := S8.sz
        have HN : Hid (wpt ([b0, true, b2, b3, b4, b5]) p 2 = wpt ([b0, true, b2, b3, b4, b5]) p 1 ++ p 1) := rfl
        have hlp := hpl 1
        have HL8 : Hid ((X7 ++ wpt ([b0, true, b2, b3, b4, b5]) p 1).length ≤ 80000) := (by rw [List.length_append]; have := HL7.out; have := HLk.out; omega : (X7 ++ wpt ([b0, true, b2, b3, b4, b5]) p 1).length ≤ 80000)
        generalize hX8 : X7 ++ wpt ([b0, true, b2, b3, b4, b5]) p 1 = X8 at hown HL8
        have HX8 : Hid (X7 ++ wpt ([b0, true, b2, b3, b4, b5]) p 1 = X8) := hX8
        clear hX8
        rw [HP1.out] at hlp
        have hl8 := HL8.out
        simp at hlp
        go_wp2_with (first
          | (go_at_call 27; refine (partForm_1 _ I A B T la ln lc N F _ hB).mono ?_; rintro e w9 ⟨a9, n9, c9, rfl, hr9, hb9⟩; have hn9 := hr9.len; have hown9 := own_bel hown hb9; have hb9' := hb.trans (hb9.mono hsz); have hs9 := hb9'.size)
          | (at_builtin; refine wp_app rfl _ _ rfl W1.heap.size _ _ _ rfl hown9 a9 n9 c9 _ rfl hr9 (by omega) hs9 ?_; intro v10 w10 hown10 hg10))
        obtain ⟨hown10', hb10⟩ := append_tail hb9' hs9 hown9 hg10 hn9 hown10
        clear hown hown9 hown10 hg10 hb hb9 hb9' hr9 q0 q1 q2 q3 q4 q5 q6 q7 S8 hn9
        go_wp2
        go_roundw
        case rel => exact ⟨2, by omega, by go_num, by rw [HN.out, ← List.append_assoc, HX8.out, HP1.out]; exact hown10', hb10⟩
        case measure => simp [intOf]
      | false =>
        have HN : Hid (wpt ([b0, false, b2, b3, b4, b5]) p 2 = wpt ([b0, false, b2, b3, b4, b5]) p 1) := List.append_nil _
        go_wp2
        go_roundw
        case rel => exact ⟨2, by omega, by go_num, by rw [HN.out]; exact hown, hb⟩
        case measure => simp [intOf]
    · have hbit : (bits .and .u8 (th : Int) 4 != 0) = b2 := by rw [HT.out]; exact and_bit2 ..
      cases b2 with
      | true =>
        obtain ⟨q0, q1, q2, q3, q4, q5, q6, q7⟩ := S8.sz
        have HN : Hid (wpt ([b0, b1, true, b3, b4, b5]) p 3 = wpt ([b0, b1, true, b3, b4, b5]) p 2 ++ p 2) := rfl
        have hlp := hpl 2
        have HL8 : Hid ((X7 ++ wpt ([b0, b1, true, b3, b4, b5]) p 2).length ≤ 80000) := (by rw [List.length_append]; have := HL7.out; have := HLk.out; omega : (X7 ++ wpt ([b0, b1, true, b3, b4, b5]) p 2).length ≤ 80000)
        generalize hX8 : X7 ++ wpt ([b0, b1, true, b3, b4, b5]) p 2 = X8 at hown HL8
        have HX8 : Hid (X7 ++ wpt ([b0, b1, true, b3, b4, b5]) p 2 = X8) := hX8
        clear hX8
        rw [HP2.out] at hlp
        have hl8 := HL8.out
        simp at hlp
        go_wp2_with (first
          | (go_at_call 27; refine (partForm_2 _ I A B T la ln lc N F _ hT).mono ?_; rintro e w9 ⟨a9, n9, c9, rfl, hr9, hb9⟩; have hn9 := hr9.len; have hown9 := own_bel hown hb9; have hb9' := hb.trans (hb9.mono hsz); have hs9 := hb9'.size)
          | (at_builtin; refine wp_app rfl _ _ rfl W1.heap.size _ _ _ rfl hown9 a9 n9 c9 _ rfl hr9 (by omega) hs9 ?_; intro v10 w10 hown10 hg10))
        obtain ⟨hown10', hb10⟩ := append_tail hb9' hs9 hown9 hg10 hn9 hown10
        clear hown hown9 hown10 hg10 hb hb9 hb9' hr9 q0 q1 q2 q3 q4 q5 q6 q7 S8 hn9
        go_wp2
        go_roundw
        case rel => exact ⟨3, by omega, by go_num, by rw [HN.out, ← List.append_assoc, HX8.out, HP2.out]; exact hown10', hb10⟩
        case measure => simp [intOf]
      | false =>
        have HN : Hid (wpt ([b0, b1, false, b3, b4, b5]) p 3 = wpt ([b0, b1, false, b3, b4, b5]) p 2) := List.append_nil _
        go_wp2
        go_roundw
        case rel => exact ⟨3, by omega, by go_num, by rw [HN.out]; exact hown, hb⟩
        case measure => simp [intOf]
    · have hbit : (bits .and .u8 (th : Int) 8 != 0) = b3 := by rw [HT.out]; exact and_bit3 ..
      cases b3 with
      | true =>
        obtain ⟨q0, q1, q2, q3, q4, q5, q6, q7⟩ := S8.sz
        have HN : Hid (wpt ([b0, b1, b2, true, b4, b5]) p 4 = wpt ([b0, b1, b2, true, b4, b5]) p 3 ++ p 3) := rfl
        have hlp := hpl 3
        have HL8 : Hid ((X7 ++ wpt ([b0, b1, b2, true, b4, b5]) p 3).length ≤ 80000) := (by rw [List.length_append]; have := HL7.out; have := HLk.out; omega : (X7 ++ wpt ([b0, b1, b2, true, b4, b5]) p 3).length ≤ 80000)
        generalize hX8 : X7 ++ wpt ([b0, b1, b2, true, b4, b5]) p 3 = X8 at hown HL8
        have HX8 : Hid (X7 ++ wpt ([b0, b1, b2, true, b4, b5]) p 3 = X8) := hX8
        clear hX8
        rw [HP3.out] at hlp
        have hl8 := HL8.out
        simp at hlp
        go_wp2_with (first
          | (go_at_call 27; refine (partForm_3 _ I A B T la ln lc N F _ L S8.lst (by omega) hs).mono ?_; rintro e w9 ⟨a9, n9, c9, rfl, hr9, hb9⟩; have hn9 := hr9.len; have hown9 := own_bel hown hb9; have hb9' := hb.trans (hb9.mono hsz); have hs9 := hb9'.size)
          | (at_builtin; refine wp_app rfl _ _ rfl W1.heap.size _ _ _ rfl hown9 a9 n9 c9 _ rfl hr9 (by omega) hs9 ?_; intro v10 w10 hown10 hg10))
        obtain ⟨hown10', hb10⟩ := append_tail hb9' hs9 hown9 hg10 hn9 hown10
        clear hown hown9 hown10 hg10 hb hb9 hb9' hr9 q0 q1 q2 q3 q4 q5 q6 q7 S8 hn9
        go_wp2
        go_roundw
        case rel => exact ⟨4, by omega, by go_num, by rw [HN.out, ← List.append_assoc, HX8.out, HP3.out]; exact hown10', hb10⟩
        case measure => simp [intOf]
      | false =>
        have HN : Hid (wpt ([b0, b1, b2, false, b4, b5]) p 4 = wpt ([b0, b1, b2, false, b4, b5]) p 3) := List.append_nil _
        go_wp2
        go_roundw
        case rel => exact ⟨4, by omega, by go_num, by rw [HN.out]; exact hown, hb⟩
        case measure => simp [intOf]
    · have hbit : (bits .and .u8 (th : Int) 16 != 0) = b4 := by rw [HT.out]; exact and_bit4 ..
      cases b4 with
      | true =>
        obtain ⟨q0, q1, q2, q3, q4, q5, q6, q7⟩ := S8.sz
        have HN : Hid (wpt ([b0, b1, b2, b3, true, b5]) p 5 = wpt ([b0, b1, b2, b3, true, b5]) p 4 ++ p 4) := rfl
        have hlp := hpl 4
        have HL8 : Hid ((X7 ++ wpt ([b0, b1, b2, b3, true, b5]) p 4).length ≤ 80000) := (by rw [List.length_append]; have := HL7.out; have := HLk.out; omega : (X7 ++ wpt ([b0, b1, b2, b3, true, b5]) p 4).length ≤ 80000)
        generalize hX8 : X7 ++ wpt ([b0, b1, b2, b3, true, b5]) p 4 = X8 at hown HL8
        have HX8 : Hid (X7 ++ wpt ([b0, b1, b2, b3, true, b5]) p 4 = X8) := hX8
        clear hX8
        rw [HP4.out] at hlp
        have hl8 := HL8.out
        simp at hlp
        go_wp2_with (first
          | (go_at_call 27; refine (partForm_4 _ I A B T la ln lc N F _ hN0 hN1).mono ?_; rintro e w9 ⟨a9, n9, c9, rfl, hr9, hb9⟩; have hn9 := hr9.len; have hown9 := own_bel hown hb9; have hb9' := hb.trans (hb9.mono hsz); have hs9 := hb9'.size)
          | (at_builtin; refine wp_app rfl _ _ rfl W1.heap.size _ _ _ rfl hown9 a9 n9 c9 _ rfl hr9 (by omega) hs9 ?_; intro v10 w10 hown10 hg10))
        obtain ⟨hown10', hb10⟩ := append_tail hb9' hs9 hown9 hg10 hn9 hown10
        clear hown hown9 hown10 hg10 hb hb9 hb9' hr9 q0 q1 q2 q3 q4 q5 q6 q7 S8 hn9
        go_wp2
        go_roundw
        case rel => exact ⟨5, by omega, by go_num, by rw [HN.out, ← List.append_assoc, HX8.out, HP4.out]; exact hown10', hb10⟩
        case measure => simp [intOf]
      | false =>
        have HN : Hid (wpt ([b0, b1, b2, b3, false, b5]) p 5 = wpt ([b0, b1, b2, b3, false, b5]) p 4) := List.append_nil _
        go_wp2
        go_roundw
        case rel => exact ⟨5, by omega, by go_num, by rw [HN.out]; exact hown, hb⟩
        case measure => simp [intOf]
    · have hbit : (bits .and .u8 (th : Int) 32 != 0) = b5 := by rw [HT.out]; exact and_bit5 ..
      cases b5 with
      | true =>
        obtain ⟨q0, q1, q2, q3, q4, q5, q6, q7⟩ := S8.sz
        have HN : Hid (wpt ([b0, b1, b2, b3, b4, true]) p 6 = wpt ([b0, b1, b2, b3, b4, true]) p 5 ++ p 5) := rfl
        have hlp := hpl 5
        have HL8 : Hid ((X7 ++ wpt ([b0, b1, b2, b3, b4, true]) p 5).length ≤ 80000) := (by rw [List.length_append]; have := HL7.out; have := HLk.out; omega : (X7 ++ wpt ([b0, b1, b2, b3, b4, true]) p 5).length ≤ 80000)
        generalize hX8 : X7 ++ wpt ([b0, b1, b2, b3, b4, true]) p 5 = X8 at hown HL8
        have HX8 : Hid (X7 ++ wpt ([b0, b1, b2, b3, b4, true]) p 5 = X8) := hX8
        clear hX8
        rw [HP5.out] at hlp
        have hl8 := HL8.out
        simp at hlp
        go_wp2_with (first
          | (go_at_call 27; refine (partForm_5 _ I A B T la ln lc N F _ hF).mono ?_; rintro e w9 ⟨a9, n9, c9, rfl, hr9, hb9⟩; have hn9 := hr9.len; have hown9 := own_bel hown hb9; have hb9' := hb.trans (hb9.mono hsz); have hs9 := hb9'.size)
          | (at_builtin; refine wp_app rfl _ _ rfl W1.heap.size _ _ _ rfl hown9 a9 n9 c9 _ rfl hr9 (by omega) hs9 ?_; intro v10 w10 hown10 hg10))
        obtain ⟨hown10', hb10⟩ := append_tail hb9' hs9 hown9 hg10 hn9 hown10
        clear hown hown9 hown10 hg10 hb hb9 hb9' hr9 q0 q1 q2 q3 q4 q5 q6 q7 S8 hn9
        go_wp2
        go_roundw
        case rel => exact ⟨6, by omega, by go_num, by rw [HN.out, ← List.append_assoc, HX8.out, HP5.out]; exact hown10', hb10⟩
        case measure => simp [intOf]
      | false =>
        have HN : Hid (wpt ([b0, b1, b2, b3, b4, false]) p 6 = wpt ([b0, b1, b2, b3, b4, false]) p 5) := List.append_nil _
        go_wp2
        go_roundw
        case rel => exact ⟨6, by omega, by go_num, by rw [HN.out]; exact hown, hb⟩
        case measure => simp [intOf]
    · go_wp2
      go_ret2
      rw [HW.out]
      exact ⟨_, rfl, own_weaken hown (by rw [HZ1.out]; omega), hb1.trans (hb.mono (by rw [HZ1.out]; omega))⟩

end Go.Proofs.YtomkcmkbehcjnaaDoor
