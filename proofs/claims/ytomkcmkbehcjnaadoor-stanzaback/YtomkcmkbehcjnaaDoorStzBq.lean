/- Stanzas there and back, whole. -/
import Derived.Test.YtomkcmkbehcjnaaDoorStzBp
import Derived.Test.YtomkcmkbehcjnaaDoorStzW
import Derived.Test.YtomkcmkbehcjnaaDoorStzM
namespace Go.Proofs.YtomkcmkbehcjnaaDoor
open Go.RowKit

theorem wpt_spt (t : Sz) : wpt t.bits (pfz t) 6 = spt t 0 ++ (spt t 1 ++ (spt t 2 ++ (spt t 3 ++ (spt t 4 ++ spt t 5)))) := by
  simp only [wpt, spt, List.nil_append, List.append_assoc]
theorem hbit_thr (t : Sz) : ∀ k, k < 6 → hbit ((bsum t.bits 1 : Nat) : Int) k = t.bits.getD k false
  | 0, _ => and_bit0 ..
  | 1, _ => and_bit1 ..
  | 2, _ => and_bit2 ..
  | 3, _ => and_bit3 ..
  | 4, _ => and_bit4 ..
  | 5, _ => and_bit5 ..
/-- The parts, read out of their forms. -/
theorem parts_put (t : Sz) (Y : List Int) (hF : Fit t) : rdFrom ((bsum t.bits 1 : Nat) : Int) 6 0 sz0 (wpt t.bits (pfz t) 6 ++ Y) = (⟨t.A, t.B, t.T, t.L, t.N, bitsv t.F⟩, Y, 0) := by
  have hx := hbit_thr t
  rw [wpt_spt]
  generalize ((bsum t.bits 1 : Nat) : Int) = x at hx
  simp only [List.append_assoc]
  rw [fwd0 (m := 5) t sz0 _ hF (hx 0 (by omega)) rfl, fwd1 (m := 4) t _ _ hF (hx 1 (by omega)) rfl, fwd2 (m := 3) t _ _ hF (hx 2 (by omega)) rfl, fwd3 (m := 2) t _ _ hF (hx 3 (by omega)) rfl, fwd4 (m := 1) t _ _ hF (hx 4 (by omega)) rfl, fwd5 (m := 0) t _ _ hF (hx 5 (by omega)) rfl]
  rfl

def wz (K : Int) (I : Nat) (t : Sz) : List Int := wform K I t.A t.B t.T t.L t.N t.F
theorem wz_eq (K : Int) (I : Nat) (t : Sz) (Y : List Int) : wz K I t ++ Y = form K.toNat ++ (form I ++ (((bsum t.bits 1 : Nat) : Int) :: (wpt t.bits (pfz t) 6 ++ Y))) := by
  unfold wz wform
  simp only [List.append_assoc, List.cons_append]
  rfl

theorem rd_write (K : Int) (I : Nat) (t : Sz) (Y : List Int) (hF : Fit t) (hK : kn K = true) (hI : I < 18446744073709551616) (hh : bits .andNot .u8 ((bsum t.bits 1 : Nat) : Int) ((kp K.toNat : Nat) : Int) = 0) :
    rdSt (wz K I t ++ Y) = if Y.length ≠ 0 then (0, 0, sz0, 2) else (K.toNat, I, ⟨t.A, t.B, t.T, t.L, t.N, bitsv t.F⟩, 0) := by
  have hKb := kn_bd hK
  have hKn : kn ((K.toNat : Nat) : Int) = true := by rw [show ((K.toNat : Nat) : Int) = K from by omega]; exact hK
  rw [wz_eq]
  unfold rdSt
  rw [scan_put _ _ (by omega)]
  simp only [List.drop_left]
  rw [scan_put _ _ hI]
  simp only [List.drop_left]
  have hp := parts_put t Y hF
  generalize ((bsum t.bits 1 : Nat) : Int) = x at hp hh
  rw [show (x :: (wpt t.bits (pfz t) 6 ++ Y)).getD 0 0 = x from rfl, show (x :: (wpt t.bits (pfz t) 6 ++ Y)).drop 1 = wpt t.bits (pfz t) 6 ++ Y from rfl, hp]
  have hk : kerr K.toNat 0 = 0 := by unfold kerr; rw [if_neg (by simp), if_pos hKn]
  have hhe : herr K.toNat (x :: (wpt t.bits (pfz t) 6 ++ Y)) = 0 := by
    unfold herr
    rw [if_neg (by simp), show (x :: (wpt t.bits (pfz t) 6 ++ Y)).getD 0 0 = x from rfl, hh]
    rfl
  rw [hk, hhe]
  rw [if_neg (by simp), if_neg (by simp), if_neg (by simp), if_neg (by simp)]

/-! ### What is read is written again -/
theorem has_lt : ∀ x : Fin 256, ∀ K : Fin 47, bits .andNot .u8 (x.val : Int) ((kp K.val : Nat) : Int) = 0 → x.val < 64 := by decide +kernel
theorem has_sum : ∀ x : Fin 64, ((bsum [hbit (x.val : Int) 0, hbit (x.val : Int) 1, hbit (x.val : Int) 2, hbit (x.val : Int) 3, hbit (x.val : Int) 4, hbit (x.val : Int) 5] 1 : Nat) : Int) = x.val := by decide +kernel

theorem write_rd {X : List Int} (hb : Bd X) {K I : Nat} {z : Sz} (h : rdSt X = (K, I, z, 0)) : Fit z ∧ bitsv z.F = z.F ∧ kn (K : Int) = true ∧ I < 18446744073709551616 ∧ bits .andNot .u8 ((bsum z.bits 1 : Nat) : Int) ((kp K : Nat) : Int) = 0 ∧ wz (K : Int) I z = X := by
  unfold rdSt at h
  simp only at h
  obtain ⟨K0, s0, e0, hs0⟩ : ∃ p s e, scan X 0 0 = (p, s, e) := ⟨_, _, _, rfl⟩
  have hw0 := scan_whole X hb
  have hl0 := scan_lt X 0 0 hb (by omega) (by decide)
  rw [hs0] at h hw0 hl0
  simp only at h hw0 hl0
  split at h
  · next q => simp only [Prod.mk.injEq] at h; exact absurd h.2.2.2 q
  next hk =>
  have he0 : e0 = 0 := by
    refine Classical.byContradiction fun q => ?_
    unfold kerr at hk; rw [if_pos q] at hk; exact hk q
  subst he0
  have hkn : kn (K0 : Int) = true := by
    refine Classical.byContradiction fun q => ?_
    unfold kerr at hk; rw [if_neg (by simp), if_neg q] at hk; exact hk (by decide)
  have hw0' := hw0 rfl
  have hb1 : Bd (X.drop s0) := hb.drop _
  generalize X.drop s0 = X1 at h hw0' hb1
  obtain ⟨I0, s1, e1, hs1⟩ : ∃ p s e, scan X1 0 0 = (p, s, e) := ⟨_, _, _, rfl⟩
  have hw1 := scan_whole X1 hb1
  have hl1 := scan_lt X1 0 0 hb1 (by omega) (by decide)
  rw [hs1] at h hw1 hl1
  simp only at h hw1 hl1
  split at h
  · next q => simp only [Prod.mk.injEq] at h; exact absurd h.2.2.2 q
  next hi =>
  have he1 : e1 = 0 := by simpa using hi
  subst he1
  have hw1' := hw1 rfl
  have hb2 : Bd (X1.drop s1) := hb1.drop _
  generalize X1.drop s1 = X2 at h hw1' hb2
  split at h
  · next q => simp only [Prod.mk.injEq] at h; exact absurd h.2.2.2 q
  next hh =>
  match X2, hb2 with
  | [], _ => exact absurd (by rfl : herr K0 [] = 2) (fun q => hh (by rw [q]; decide))
  | x :: X3, hb2 =>
    have hx := hb2 x (by simp)
    have hb3 : Bd X3 := fun y hy => hb2 y (by simp [hy])
    rw [show (x :: X3).getD 0 0 = x from rfl, show (x :: X3).drop 1 = X3 from rfl] at h
    have hn0 : bits .andNot .u8 x ((kp K0 : Nat) : Int) = 0 := by
      refine Classical.byContradiction fun q => hh ?_
      unfold herr
      rw [if_neg (by simp), show (x :: X3).getD 0 0 = x from rfl, if_pos (by simpa using q)]
      decide
    split at h
    · next q => simp only [Prod.mk.injEq] at h; exact absurd h.2.2.2 q
    next hp =>
    split at h
    · simp only [Prod.mk.injEq] at h; exact absurd h.2.2.2 (by decide)
    next hr =>
    obtain ⟨zf, R, e, hpe⟩ : ∃ zf R e, rdFrom x 6 0 sz0 X3 = (zf, R, e) := ⟨_, _, _, rfl⟩
    rw [hpe] at h hp hr
    simp only at h hp hr
    simp only [Prod.mk.injEq] at h
    obtain ⟨rfl, rfl, rfl, _⟩ := h
    have he : e = 0 := by simpa using hp
    have hR : R = [] := List.eq_nil_of_length_eq_zero (by simpa using hr)
    subst he
    subst hR
    obtain ⟨pA, Y0, h0, b0, gA, tA, xA⟩ := bwd0 (m := 5) hb3 rfl hpe
    obtain ⟨pB, Y1, h1, b1, gB, tB, xB⟩ := bwd1 (m := 4) b0 rfl h0
    obtain ⟨pT, Y2, h2, b2, gT, tT, xT⟩ := bwd2 (m := 3) b1 rfl h1
    obtain ⟨pL, Y3, h3, b3, gL, tL, xL⟩ := bwd3 (m := 2) b2 rfl h2
    obtain ⟨pN, Y4, h4, b4, gN, tN', xN⟩ := bwd4 (m := 1) b3 rfl h3
    obtain ⟨pF, Y5, h5, b5, gF, tF, xF⟩ := bwd5 (m := 0) b4 rfl h4
    rw [rdFrom] at h5
    simp only [Prod.mk.injEq, and_true] at h5
    obtain ⟨rfl, rfl⟩ := h5
    have hbits : Sz.bits ⟨pA, pB, pT, pL, pN, pF⟩ = [hbit x 0, hbit x 1, hbit x 2, hbit x 3, hbit x 4, hbit x 5] := by
      show [_, _, _, _, _, _] = _
      rw [tA, tB, tT, tL, tN', tF]
    have hK47 := kn_bd hkn
    have hx64 := has_lt ⟨x.toNat, by omega⟩ ⟨K0, by omega⟩ (by show bits .andNot .u8 ((x.toNat : Nat) : Int) _ = 0; rw [show ((x.toNat : Nat) : Int) = x from by omega]; exact hn0)
    have hsum : ((bsum (Sz.bits ⟨pA, pB, pT, pL, pN, pF⟩) 1 : Nat) : Int) = x := by
      have := has_sum ⟨x.toNat, hx64⟩
      simp only [show ((x.toNat : Nat) : Int) = x from by omega] at this
      rw [hbits]; exact this
    refine ⟨⟨gA, gB, gT, gL.1, gL.2, gN.1, gN.2, gF.1⟩, gF.2, hkn, hl1, by rw [hsum]; exact hn0, ?_⟩
    have hwz := wz_eq (K0 : Int) I0 ⟨pA, pB, pT, pL, pN, pF⟩ []
    rw [List.append_nil, List.append_nil, hsum, wpt_spt] at hwz
    rw [hwz, show ((K0 : Int)).toNat = K0 from by omega, ← hw0', ← hw1']
    congr 3
    unfold spt
    rw [hbits]
    rw [xA, xB, xT, xL, xN, xF, List.append_nil]
    rfl
/-! ### Twin of what is cut; Write, either way -/
/-- A stanza that is cut already: Twin's answer reads as it. -/
theorem stwin_id (K : Int) (I : Nat) (A B T : ByteArray) (la : Option Addr) (ln lc : Nat) (N : Int) (F : Nat) (L : List ByteArray) (w : World) (hR : SRd w la ln lc L) (hA : A.size ≤ 1100) (hB : B.size ≤ 1100) (hT : T.size ≤ 1100) (hl : L.length ≤ 70) (hs : ∀ s ∈ L, s.size ≤ 1100) :
    Calls Tryd.prog 8 #[.agg #[.int .i64 K, .int .u64 I, .string A, .string B, .string T, .slice la ln lc, .int .i64 N, .float .f64 F]] w fun e w' => ∃ la' ln' lc', e = .returned (.agg #[.int .i64 K, .int .u64 I, .string A, .string B, .string T, .slice la' ln' lc', .int .i64 N, .float .f64 F]) ∧ SRd w' la' ln' lc' L ∧ Below w.heap.size w w' := by
  have h := stwin_any K I A B T la ln lc N F L w hR (by omega) (by omega) (by omega)
  rw [cutS_id hA, cutS_id hB, cutS_id hT, cutL_id hl hs] at h
  exact h.mono fun _ _ ⟨a, n, c, he, _, hr, hb⟩ => ⟨a, n, c, he, hr, hb⟩

theorem wpt_bd {bs : List Bool} {p : Nat → List Int} (h : ∀ k, Bd (p k)) : ∀ k, Bd (wpt bs p k)
  | 0 => Bd.nil
  | k + 1 => by
    rw [wpt]
    refine (wpt_bd h k).append ?_
    split
    · exact h k
    · exact Bd.nil
theorem pf_bd (A B T : ByteArray) (L : List ByteArray) (N : Int) (F : Nat) : ∀ k, Bd (pf A B T L N F k)
  | 0 => tform_bd A
  | 1 => tform_bd B
  | 2 => tform_bd T
  | 3 => lform_bd L
  | 4 => form_bd _
  | _ + 5 => fbl_bd _ _
theorem wform_bd (K : Int) (I : Nat) (A B T : ByteArray) (L : List ByteArray) (N : Int) (F : Nat) : Bd (wform K I A B T L N F) := by
  unfold wform
  refine ((((form_bd _).append (form_bd _)).append ?_).append (wpt_bd (pf_bd A B T L N F) 6))
  intro x hx
  have := thr_lt A B T L.length N F
  simp at hx
  omega

/-- Write, either way. -/
theorem write_any (K : Int) (I : Nat) (A B T : ByteArray) (la : Option Addr) (ln lc : Nat) (N : Int) (F : Nat) (L : List ByteArray) (w : World) (hL : Lays w) (hR : SRd w la ln lc L) (hA : A.size ≤ 1100) (hB : B.size ≤ 1100) (hT : T.size ≤ 1100) (hI : I < 18446744073709551616) (hN0 : -9223372036854775808 ≤ N) (hN1 : N ≤ 9223372036854775807) (hF : F < 18446744073709551616) :
    Calls Tryd.prog 9 #[.agg #[.int .i64 K, .int .u64 I, .string A, .string B, .string T, .slice la ln lc, .int .i64 N, .float .f64 F]] w fun e w' => ∃ a n c, e = .returned (.tuple #[.slice a n c, .int .i64 ((chk K A B T L N F : Nat) : Int)]) ∧ (chk K A B T L N F ≠ 0 → n = 0) ∧ (chk K A B T L N F = 0 → Rd w' a n c (wform K I A B T L N F)) ∧ Below w.heap.size w w' := by
  by_cases hc : chk K A B T L N F = 0
  · rw [hc]
    refine (write_ok K I A B T la ln lc N F L w hL hR hI hN0 hN1 hF hc).mono ?_
    rintro e w' ⟨v, rfl, ho, hb⟩
    obtain ⟨a, c, rfl, hr⟩ := Rd.ofOwn ho (wform_bd K I A B T L N F)
    exact ⟨a, _, c, rfl, fun h => absurd rfl h, fun _ => hr, hb⟩
  · refine (write_bad K I A B T la ln lc N F L w hL hR (by omega) (by omega) (by omega) hc).mono ?_
    rintro e w' ⟨rfl, hb⟩
    exact ⟨none, 0, 0, rfl, fun _ => rfl, fun h => absurd h hc, hb⟩

theorem wform_len {K : Int} {I : Nat} {A B T : ByteArray} {L : List ByteArray} {N : Int} {F : Nat} (hI : I < 18446744073709551616) (hN0 : -9223372036854775808 ≤ N) (hN1 : N ≤ 9223372036854775807) (h : chk K A B T L N F = 0) : (wform K I A B T L N F).length ≤ 90000 := by
  obtain ⟨hk, hA, hB, hT, hl, hs⟩ := chk_ok h
  have hkb := kn_bd hk
  have l0 := form_len10 K.toNat (by omega)
  have l1 := form_len10 I hI
  have lA := tform_len A hA
  have lB := tform_len B hB
  have lT := tform_len T hT
  have lL : (lform L).length ≤ 10 + 1034 * 64 := by
    unfold lform
    rw [List.length_append]
    have := form_len10 L.length (by omega)
    have h2 := texts_len L hs
    have h3 : 1034 * L.length ≤ 1034 * 64 := Nat.mul_le_mul_left _ hl
    omega
  have lN := form_len10 (foldv N) (fold_lt N hN0 hN1)
  have lF : (fbl (bitsv F) 8).length = 8 := fbl_len _ _
  unfold wform
  rw [List.length_append, List.length_append, List.length_append]
  have key : ∀ (b : Bool) (x : List Int) (m : Nat), x.length ≤ m → (if b = true then x else []).length ≤ m := fun b x m h => by
    cases b
    · simp
    · simpa using h
  simp only [wpt, List.length_append, List.length_nil, List.length_singleton, Nat.zero_add]
  have k0 := key ((tbits A B T L.length N F).getD 0 false) (pf A B T L N F 0) 1034 lA
  have k1 := key ((tbits A B T L.length N F).getD 1 false) (pf A B T L N F 1) 1034 lB
  have k2 := key ((tbits A B T L.length N F).getD 2 false) (pf A B T L N F 2) 1034 lT
  have k3 := key ((tbits A B T L.length N F).getD 3 false) (pf A B T L N F 3) (10 + 1034 * 64) lL
  have k4 := key ((tbits A B T L.length N F).getD 4 false) (pf A B T L N F 4) 10 lN
  have k5 := key ((tbits A B T L.length N F).getD 5 false) (pf A B T L N F 5) 8 (by rw [show pf A B T L N F 5 = fbl (bitsv F) 8 from rfl, lF]; exact Nat.le_refl _)
  omega
/-- What Check lets through is right; what is right Check lets through. -/
theorem fit_of {K : Int} {A B T : ByteArray} {L : List ByteArray} {N : Int} {F : Nat} (hN0 : -9223372036854775808 ≤ N) (hN1 : N ≤ 9223372036854775807) (hF : F < 18446744073709551616) (h : chk K A B T L N F = 0) : Fit ⟨A, B, T, L, N, F⟩ ∧ kn K = true ∧ bits .andNot .u8 ((bsum (Sz.bits ⟨A, B, T, L, N, F⟩) 1 : Nat) : Int) ((kp K.toNat : Nat) : Int) = 0 := by
  unfold chk at h
  split at h
  · cases h
  next hk =>
  split at h
  · cases h
  next hh =>
  split at h
  · next h3 => exact absurd h h3
  next h3 =>
  split at h
  · cases h
  next h64 =>
  have h3' : terrs [A, B, T] = 0 := by omega
  have one : ∀ {s : ByteArray} {r : List ByteArray}, terrs (s :: r) = 0 → terr1 s = 0 ∧ terrs r = 0 := fun {s r} q => by
    by_cases g : terr1 s = 0
    · rw [terrs_pass g] at q; exact ⟨g, q⟩
    · rw [terrs_stop g] at q; exact absurd q g
  have a1 := one h3'
  have a2 := one a1.2
  have a3 := one a2.2
  refine ⟨⟨a1.1, a2.1, a3.1, Nat.le_of_not_lt h64, h, hN0, hN1, hF⟩, by simpa using hk, ?_⟩
  exact Classical.byContradiction fun q => hh q
theorem chk_of {K : Int} {z : Sz} (hF : Fit z) (hk : kn K = true) (hh : bits .andNot .u8 ((bsum z.bits 1 : Nat) : Int) ((kp K.toNat : Nat) : Int) = 0) : chk K z.A z.B z.T z.L z.N z.F = 0 := by
  unfold chk
  have hh' : bits .andNot .u8 ((thr z.A z.B z.T z.L.length z.N z.F : Nat) : Int) ((kp K.toNat : Nat) : Int) = 0 := hh
  rw [if_neg (by simp [hk]), if_neg (by rw [hh']; simp)]
  have h3 : terrs [z.A, z.B, z.T] = 0 := by rw [terrs_pass hF.a, terrs_pass hF.b, terrs_pass hF.t]; rfl
  rw [if_neg (by rw [h3]; simp), if_neg (by have := hF.l; omega)]
  exact hF.ls
theorem bitsv_idem (F : Nat) : bitsv (bitsv F) = bitsv F := by
  unfold bitsv
  by_cases h : Fl.nan F = true
  · rw [if_pos h]; rfl
  · rw [if_neg h, if_neg h]
theorem rd_oneB (w : World) (x : Int) (h0 : 0 ≤ x) (h1 : x ≤ 255) : Rd (w.alloc (.cells #[.int .u8 x] 5)) (some ⟨w.heap.size, 0, none⟩) 1 1 [x] := by
  refine ⟨rfl, Nat.le_refl _, by unfold maxLen; omega, (fun h => by cases h), (fun q hq => by simp at hq; omega), fun ad had j hj => ?_⟩
  cases had
  rw [add_flat]
  match j, hj with
  | 0, _ => unfold World.cell?; rw [World.alloc_heap_new]; rfl
end Go.Proofs.YtomkcmkbehcjnaaDoor
