/- The document's Read: the errors ahead of the parts. -/
import Derived.Test.YtomkcmkbehcjnaaDoorStzS
import Derived.Laws.ResultCell
namespace Go.Proofs.YtomkcmkbehcjnaaDoor
open Go.RowKit

abbrev AnsRR (p : Nat × Nat × Sz × Nat) (w : World) (e : Ending) (w' : World) : Prop :=
  ∃ la ln lc, e = .returned (.tuple #[SzV p la ln lc, .int .i64 (p.2.2.2 : Int)]) ∧ SRd w' la ln lc p.2.2.1.L ∧ Below w.heap.size w w'

theorem and64 : ∀ x, x < 256 → ∀ k, k < 6 → bits .and .i64 ((x : Nat) : Int) ((2 ^ k : Nat) : Int) = bits .and .u8 ((x : Nat) : Int) ((2 ^ k : Nat) : Int) := by decide +kernel
theorem andNot64 : ∀ x, x < 256 → ∀ y, y < 64 → bits .andNot .i64 ((x : Nat) : Int) ((y : Nat) : Int) = bits .andNot .u8 ((x : Nat) : Int) ((y : Nat) : Int) := by decide +kernel
theorem kp_lt : ∀ k, kp k < 64 := by
  intro k
  by_cases h : k < 47
  · have : ∀ k, k < 47 → kp k < 64 := by decide +kernel
    exact this k h
  · have : kp k = 0 := by unfold kp kindTab; simp [List.getD]; rw [List.getElem?_eq_none (by simp; omega)]; rfl
    omega
theorem rp_lt (K : Int) : (decide (rp K < 0)) = !(kn K) := by
  unfold rp
  cases kn K with
  | false => rfl
  | true => rw [if_pos rfl]; simp

section
variable (a : Option Addr) (n c : Nat) (X : List Int) (w : World)
theorem w2_bel : Below w.heap.size w ((w.alloc (.cells #[.int .i64 0, .int .u64 0, .string ⟨#[]⟩, .string ⟨#[]⟩, .string ⟨#[]⟩, .slice none 0 0, .int .i64 0, .float .f64 0] 26)).alloc (.cells #[.int .i64 0, .int .u64 0, .string ⟨#[]⟩, .string ⟨#[]⟩, .string ⟨#[]⟩, .slice none 0 0, .int .i64 0, .float .f64 0] 26)) := ((Below.refl _ _).alloc (Nat.le_refl _) _).alloc (by simp) _
theorem w2_b2 : Sz8 ((w.alloc (.cells #[.int .i64 0, .int .u64 0, .string ⟨#[]⟩, .string ⟨#[]⟩, .string ⟨#[]⟩, .slice none 0 0, .int .i64 0, .float .f64 0] 26)).alloc (.cells #[.int .i64 0, .int .u64 0, .string ⟨#[]⟩, .string ⟨#[]⟩, .string ⟨#[]⟩, .slice none 0 0, .int .i64 0, .float .f64 0] 26)) w.heap.size zcells := SzC8.new w _
theorem w2_b4 : Sz8 ((w.alloc (.cells #[.int .i64 0, .int .u64 0, .string ⟨#[]⟩, .string ⟨#[]⟩, .string ⟨#[]⟩, .slice none 0 0, .int .i64 0, .float .f64 0] 26)).alloc (.cells #[.int .i64 0, .int .u64 0, .string ⟨#[]⟩, .string ⟨#[]⟩, .string ⟨#[]⟩, .slice none 0 0, .int .i64 0, .float .f64 0] 26)) (w.heap.size + 1) zcells := by
  have h := Sz8.new (w.alloc (.cells #[.int .i64 0, .int .u64 0, .string ⟨#[]⟩, .string ⟨#[]⟩, .string ⟨#[]⟩, .slice none 0 0, .int .i64 0, .float .f64 0] 26))
  simpa using h
theorem w2_sz : ((w.alloc (.cells #[.int .i64 0, .int .u64 0, .string ⟨#[]⟩, .string ⟨#[]⟩, .string ⟨#[]⟩, .slice none 0 0, .int .i64 0, .float .f64 0] 26)).alloc (.cells #[.int .i64 0, .int .u64 0, .string ⟨#[]⟩, .string ⟨#[]⟩, .string ⟨#[]⟩, .slice none 0 0, .int .i64 0, .float .f64 0] 26)).heap.size = w.heap.size + 2 := by simp
end

set_option maxHeartbeats 1600000 in
set_option maxRecDepth 100000 in
theorem rr_scan (a : Option Addr) (n c : Nat) (X : List Int) (w : World) (hR : Rd w a n c X) (hn : n ≤ 100000) {N k E : Nat} (hs : scan X 0 0 = (N, k, E)) (hE : E ≠ 0) : Calls Tryd.prog 17 #[.slice a n c] w (AnsRR (rdSt X) w) := by
  have hsf := run_store_float
  have hb2 := w2_bel w
  have hz2 := w2_b2 w
  have hz4 := w2_b4 w
  have HZ2 : Hid (((w.alloc (.cells #[.int .i64 0, .int .u64 0, .string ⟨#[]⟩, .string ⟨#[]⟩, .string ⟨#[]⟩, .slice none 0 0, .int .i64 0, .float .f64 0] 26)).alloc (.cells #[.int .i64 0, .int .u64 0, .string ⟨#[]⟩, .string ⟨#[]⟩, .string ⟨#[]⟩, .slice none 0 0, .int .i64 0, .float .f64 0] 26)).heap.size = w.heap.size + 2) := w2_sz w
  have cU := refUintD X a n c _ (hR.carry (Nat.le_refl _) hb2) (by omega)
  unfold AnsU at cU
  have HR : Hid (rdSt X = (0, 0, sz0, E)) := by
    have e : kerr N E = E := by unfold kerr; rw [if_pos hE]
    have := rdSt_kind hs (by rw [e]; exact hE)
    rw [e] at this; exact this
  rw [hs] at cU
  have hE' : ((E : Int) != 0) = true := by simp; omega
  clear hs
  go_enter Tryd.func17, Tryd.ntmps17
  go_wp2_with (go_at_call 39; refine cU.mono ?_; rintro e w3 ⟨a3, n3, c3, rfl, hr3, hx3⟩; have k3 := Keep.ofBelow (S := fun _ => False) hx3; have hb3 := hb2.trans (Below.mono hx3 hb2.size); have hz23 := hz2.keep k3 (fun h => h); have hz43 := hz4.keep k3 (fun h => h); obtain ⟨q0, q1, q2, q3, q4, q5, q6, q7⟩ := Sz8.sz (K := 0) (I := 0) (A := ⟨#[]⟩) (B := ⟨#[]⟩) (T := ⟨#[]⟩) (la := none) (ln := 0) (lc := 0) (N := 0) (F := 0) hz43; obtain ⟨z0, z1, z2, z3, z4, z5, z6, z7⟩ := Sz8.sz (K := 0) (I := 0) (A := ⟨#[]⟩) (B := ⟨#[]⟩) (T := ⟨#[]⟩) (la := none) (ln := 0) (lc := 0) (N := 0) (F := 0) hz23; have t0 := hz23.thaw 0; have t1 := hz23.thaw 1; have t2 := hz23.thaw 2; have t3 := hz23.thaw 3; have t4 := hz23.thaw 4; have t5 := hz23.thaw 5; have t6 := hz23.thaw 6; have t7 := hz23.thaw 7)
  obtain ⟨hz8, hk8⟩ := store8 (K := 0) (I := 0) (A := ⟨#[]⟩) (B := ⟨#[]⟩) (T := ⟨#[]⟩) (la := none) (ln := 0) (lc := 0) (N := 0) (F := 0) hz23
  clear q0 q1 q2 q3 q4 q5 q6 q7 z0 z1 z2 z3 z4 z5 z6 z7 t0 t1 t2 t3 t4 t5 t6 t7
  generalize World.setCell _ _ (.float .f64 0) = w8 at hz8 hk8 ⊢
  obtain ⟨p0, p1, p2, p3, p4, p5, p6, p7⟩ := hz8.sz
  refine bodyPost_ret (v := .tuple #[.agg #[.int .i64 0, .int .u64 0, .string ⟨#[]⟩, .string ⟨#[]⟩, .string ⟨#[]⟩, .slice none 0 0, .int .i64 0, .float .f64 0], .int .i64 (E : Int)]) (by simp [results, Tryd.results17, go_sem, p0, p1, p2, p3, p4, p5, p6, p7]) rfl ?_
  rw [HR.out]
  exact ⟨none, 0, 0, rfl, srd_nil _, hb3.trans (hk8.below hb3.size (fun _ e => by omega))⟩

set_option maxHeartbeats 1600000 in
set_option maxRecDepth 100000 in
theorem rr_kind (a : Option Addr) (n c : Nat) (X : List Int) (w : World) (hR : Rd w a n c X) (hn : n ≤ 100000) {N k : Nat} (hs : scan X 0 0 = (N, k, 0)) (hN : N < 18446744073709551616) (hE : kn (N : Int) = false) : Calls Tryd.prog 17 #[.slice a n c] w (AnsRR (rdSt X) w) := by
  have hsf := run_store_float
  have hb2 := w2_bel w
  have hz2 := w2_b2 w
  have hz4 := w2_b4 w
  have HZ2 : Hid (((w.alloc (.cells #[.int .i64 0, .int .u64 0, .string ⟨#[]⟩, .string ⟨#[]⟩, .string ⟨#[]⟩, .slice none 0 0, .int .i64 0, .float .f64 0] 26)).alloc (.cells #[.int .i64 0, .int .u64 0, .string ⟨#[]⟩, .string ⟨#[]⟩, .string ⟨#[]⟩, .slice none 0 0, .int .i64 0, .float .f64 0] 26)).heap.size = w.heap.size + 2) := w2_sz w
  have cU := refUintD X a n c _ (hR.carry (Nat.le_refl _) hb2) (by omega)
  unfold AnsU at cU
  have HR : Hid (rdSt X = (0, 0, sz0, 3)) := by
    have e : kerr N 0 = 3 := by unfold kerr; rw [if_neg (by simp), hE]; rfl
    have := rdSt_kind hs (by rw [e]; decide)
    rw [e] at this; exact this
  have huN : uN X = N := by unfold uN; rw [hs]; rfl
  rw [huN, hs] at cU
  clear hs huN
  by_cases hbig : (2147483648 : Int) ≤ (N : Int)
  · go_enter Tryd.func17, Tryd.ntmps17
    go_wp2_with (go_at_call 39; refine cU.mono ?_; rintro e w3 ⟨a3, n3, c3, rfl, hr3, hx3⟩; have k3 := Keep.ofBelow (S := fun _ => False) hx3; have hb3 := hb2.trans (Below.mono hx3 hb2.size); have hz23 := hz2.keep k3 (fun h => h); have hz43 := hz4.keep k3 (fun h => h); obtain ⟨q0, q1, q2, q3, q4, q5, q6, q7⟩ := Sz8.sz (K := 0) (I := 0) (A := ⟨#[]⟩) (B := ⟨#[]⟩) (T := ⟨#[]⟩) (la := none) (ln := 0) (lc := 0) (N := 0) (F := 0) hz43; obtain ⟨z0, z1, z2, z3, z4, z5, z6, z7⟩ := Sz8.sz (K := 0) (I := 0) (A := ⟨#[]⟩) (B := ⟨#[]⟩) (T := ⟨#[]⟩) (la := none) (ln := 0) (lc := 0) (N := 0) (F := 0) hz23; have t0 := hz23.thaw 0; have t1 := hz23.thaw 1; have t2 := hz23.thaw 2; have t3 := hz23.thaw 3; have t4 := hz23.thaw 4; have t5 := hz23.thaw 5; have t6 := hz23.thaw 6; have t7 := hz23.thaw 7)
    obtain ⟨hz8, hk8⟩ := store8 (K := 0) (I := 0) (A := ⟨#[]⟩) (B := ⟨#[]⟩) (T := ⟨#[]⟩) (la := none) (ln := 0) (lc := 0) (N := 0) (F := 0) hz23
    clear q0 q1 q2 q3 q4 q5 q6 q7 z0 z1 z2 z3 z4 z5 z6 z7 t0 t1 t2 t3 t4 t5 t6 t7
    generalize World.setCell _ _ (.float .f64 0) = w8 at hz8 hk8 ⊢
    obtain ⟨p0, p1, p2, p3, p4, p5, p6, p7⟩ := hz8.sz
    refine bodyPost_ret (v := .tuple #[.agg #[.int .i64 0, .int .u64 0, .string ⟨#[]⟩, .string ⟨#[]⟩, .string ⟨#[]⟩, .slice none 0 0, .int .i64 0, .float .f64 0], .int .i64 3]) (by simp [results, Tryd.results17, go_sem, p0, p1, p2, p3, p4, p5, p6, p7]) rfl ?_
    rw [HR.out]
    exact ⟨none, 0, 0, rfl, srd_nil _, hb3.trans (hk8.below hb3.size (fun _ e => by omega))⟩
  · have hw64 : wrap64 (N : Int) = (N : Int) := by unfold wrap64; omega
    have hwi : IntKind.i64.wrap (N : Int) = (N : Int) := by rw [IntKind.wrap_i64]; omega
    have hrp : decide (rp (N : Int) < 0) = true := by rw [rp_lt, hE]; rfl
    have hrp' : rp (N : Int) < 0 := of_decide_eq_true hrp
    go_enter Tryd.func17, Tryd.ntmps17
    go_wp2_with (first
      | (go_at_call 39; refine cU.mono ?_; rintro e w3 ⟨a3, n3, c3, rfl, hr3, hx3⟩; have k3 := Keep.ofBelow (S := fun _ => False) hx3; have hb3 := hb2.trans (Below.mono hx3 hb2.size); have hz23 := hz2.keep k3 (fun h => h); have hz43 := hz4.keep k3 (fun h => h); obtain ⟨q0, q1, q2, q3, q4, q5, q6, q7⟩ := Sz8.sz (K := 0) (I := 0) (A := ⟨#[]⟩) (B := ⟨#[]⟩) (T := ⟨#[]⟩) (la := none) (ln := 0) (lc := 0) (N := 0) (F := 0) hz43; obtain ⟨z0, z1, z2, z3, z4, z5, z6, z7⟩ := Sz8.sz (K := 0) (I := 0) (A := ⟨#[]⟩) (B := ⟨#[]⟩) (T := ⟨#[]⟩) (la := none) (ln := 0) (lc := 0) (N := 0) (F := 0) hz23; have t0 := hz23.thaw 0; have t1 := hz23.thaw 1; have t2 := hz23.thaw 2; have t3 := hz23.thaw 3; have t4 := hz23.thaw 4; have t5 := hz23.thaw 5; have t6 := hz23.thaw 6; have t7 := hz23.thaw 7)
      | (go_at_call 28; refine (parts_any _ _).mono ?_; rintro e w4 ⟨rfl, hw4⟩; replace hw4 := hw4.symm; subst hw4))
    obtain ⟨hz8, hk8⟩ := store8 (K := 0) (I := 0) (A := ⟨#[]⟩) (B := ⟨#[]⟩) (T := ⟨#[]⟩) (la := none) (ln := 0) (lc := 0) (N := 0) (F := 0) hz23
    clear q0 q1 q2 q3 q4 q5 q6 q7 z0 z1 z2 z3 z4 z5 z6 z7 t0 t1 t2 t3 t4 t5 t6 t7
    generalize World.setCell _ _ (.float .f64 0) = w8 at hz8 hk8 ⊢
    obtain ⟨p0, p1, p2, p3, p4, p5, p6, p7⟩ := hz8.sz
    refine bodyPost_ret (v := .tuple #[.agg #[.int .i64 0, .int .u64 0, .string ⟨#[]⟩, .string ⟨#[]⟩, .string ⟨#[]⟩, .slice none 0 0, .int .i64 0, .float .f64 0], .int .i64 3]) (by simp [results, Tryd.results17, go_sem, p0, p1, p2, p3, p4, p5, p6, p7]) rfl ?_
    rw [HR.out]
    exact ⟨none, 0, 0, rfl, srd_nil _, hb3.trans (hk8.below hb3.size (fun _ e => by omega))⟩

theorem Sz8K.new (w : World) (N : Nat) : Sz8 (w.alloc (.cells #[.int .i64 (N : Int), .int .u64 0, .string ⟨#[]⟩, .string ⟨#[]⟩, .string ⟨#[]⟩, .slice none 0 0, .int .i64 0, .float .f64 0] 26)) w.heap.size [.int .i64 (N : Int), .int .u64 0, .string ⟨#[]⟩, .string ⟨#[]⟩, .string ⟨#[]⟩, .slice none 0 0, .int .i64 0, .float .f64 0] := by
  have h := (Sz8.new w).set (i := 0) (by omega) (.int .i64 (N : Int))
  have e : (w.alloc (.cells #[.int .i64 0, .int .u64 0, .string ⟨#[]⟩, .string ⟨#[]⟩, .string ⟨#[]⟩, .slice none 0 0, .int .i64 0, .float .f64 0] 26)).setCell ⟨w.heap.size, 0, none⟩ (.int .i64 (N : Int)) = w.alloc (.cells #[.int .i64 (N : Int), .int .u64 0, .string ⟨#[]⟩, .string ⟨#[]⟩, .string ⟨#[]⟩, .slice none 0 0, .int .i64 0, .float .f64 0] 26) := by
    rw [World.setCell_alloc_at _ _ _ _ _ rfl]
    rfl
  rw [e] at h
  exact h

set_option maxHeartbeats 1600000 in
set_option maxRecDepth 100000 in
theorem rr_id (a : Option Addr) (n c : Nat) (X : List Int) (w : World) (hR : Rd w a n c X) (hn : n ≤ 100000) {N k I k1 E1 : Nat} (hs : scan X 0 0 = (N, k, 0)) (hE : kn (N : Int) = true) (hs1 : scan (X.drop k) 0 0 = (I, k1, E1)) (hE1 : E1 ≠ 0) : Calls Tryd.prog 17 #[.slice a n c] w (AnsRR (rdSt X) w) := by
  have hsf := run_store_float
  have hb2 := w2_bel w
  have hz2 := w2_b2 w
  have hz4 := w2_b4 w
  have HZ2 : Hid (((w.alloc (.cells #[.int .i64 0, .int .u64 0, .string ⟨#[]⟩, .string ⟨#[]⟩, .string ⟨#[]⟩, .slice none 0 0, .int .i64 0, .float .f64 0] 26)).alloc (.cells #[.int .i64 0, .int .u64 0, .string ⟨#[]⟩, .string ⟨#[]⟩, .string ⟨#[]⟩, .slice none 0 0, .int .i64 0, .float .f64 0] 26)).heap.size = w.heap.size + 2) := w2_sz w
  have cU := refUintD X a n c _ (hR.carry (Nat.le_refl _) hb2) (by omega)
  unfold AnsU at cU
  have hK0 : kerr N 0 = 0 := by unfold kerr; rw [if_neg (by simp), hE]; rfl
  have HR : Hid (rdSt X = (0, 0, sz0, E1)) := rdSt_id hs hK0 hs1 hE1
  have hN47 := kn_bd hE
  have hw64 : wrap64 (N : Int) = (N : Int) := by unfold wrap64; omega
  have hwi : IntKind.i64.wrap (N : Int) = (N : Int) := by rw [IntKind.wrap_i64]; omega
  have hsm : decide ((2147483648 : Int) ≤ (N : Int)) = false := decide_eq_false (by omega)
  have hrp0 : rp (N : Int) = ((kp N : Nat) : Int) := by unfold rp; rw [hE, if_pos rfl, Int.toNat_natCast]
  have HRP : Hid (rp (N : Int) = ((kp N : Nat) : Int)) := hrp0
  have hrp : decide (rp (N : Int) < 0) = false := decide_eq_false (by rw [hrp0]; omega)
  clear hrp0
  have huN : uN X = N := by unfold uN; rw [hs]; rfl
  have huR : uR X = X.drop k := by unfold uR; rw [hs]; rfl
  rw [huN, huR, hs] at cU
  have hl1 : (X.drop k).length ≤ n := by rw [List.length_drop, hR.len]; omega
  clear hs huN huR hK0 hE
  generalize X.drop k = X1 at cU hs1 hl1
  have hE' : ((E1 : Int) != 0) = true := by simp; omega
  have tok : True := trivial
  go_enter Tryd.func17, Tryd.ntmps17
  go_wp2_with (first
    | (go_at_call 39; clear tok; refine cU.mono ?_; rintro e w3 ⟨a3, n3, c3, rfl, hr3, hx3⟩; have k3 := Keep.ofBelow (S := fun _ => False) hx3; have hb3 := hb2.trans (Below.mono hx3 hb2.size); have hz23 := hz2.keep k3 (fun h => h); have hz43 := hz4.keep k3 (fun h => h); have hn3 := hr3.len; have hs3 : w.heap.size + 2 ≤ w3.heap.size := (by rw [← HZ2.out]; exact Below.size hx3))
    | (go_at_call 28; refine (parts_any _ _).mono ?_; rintro e w4 ⟨rfl, hw4⟩; replace hw4 := hw4.symm; subst hw4)
    | (go_at_call 39; have hb4 : Below w3.heap.size w3 (w3.alloc (.cells #[.int .i64 (N : Int), .int .u64 0, .string ⟨#[]⟩, .string ⟨#[]⟩, .string ⟨#[]⟩, .slice none 0 0, .int .i64 0, .float .f64 0] 26)) := (Below.refl _ _).alloc (Nat.le_refl _) _; have k4 := Keep.ofBelow (S := fun _ => False) hb4; have cI := refUintD X1 a3 n3 c3 _ (hr3.carry (Nat.le_refl _) hb4) (by omega); unfold AnsU at cI; rw [hs1] at cI; refine cI.mono ?_; rintro e w5 ⟨a5, n5, c5, rfl, hr5, hx5⟩; have k5 := Keep.ofBelow (S := fun _ => False) hx5; have hz25 := (hz23.keep k4 (fun h => h)).keep k5 (fun h => h); have hz45 := (hz43.keep k4 (fun h => h)).keep k5 (fun h => h); have hz75 := (Sz8K.new w3 N).keep k5 (fun h => h); have y1 := hz75.cell 1 (by omega); have u1 := hz75.thaw 1; have hb5 := hb3.trans ((hb4.trans (Below.mono hx5 hb4.size)).mono hb3.size); have hs5 : w3.heap.size < w5.heap.size := hz75.lt; have kS : Keep (fun k => k = w3.heap.size) w5 (w5.setCell ⟨w3.heap.size, 1, none⟩ (.int .u64 (uN X1 : Nat))) := (Keep.refl (fun k => k = w3.heap.size) w5).setCell (p := ⟨w3.heap.size, 1, none⟩) (show (fun k => k = w3.heap.size) w3.heap.size from rfl) _; have hz26 := hz25.keep kS (fun e => by omega); have hz46 := hz45.keep kS (fun e => by omega); have hb6 := hb5.trans (kS.below hb5.size (fun _ e => by omega)); have hz76 := hz75.set (i := 1) (by omega) (.int .u64 (uN X1 : Nat)); obtain ⟨q0, q1, q2, q3, q4, q5, q6, q7⟩ := Sz8.sz (K := 0) (I := 0) (A := ⟨#[]⟩) (B := ⟨#[]⟩) (T := ⟨#[]⟩) (la := none) (ln := 0) (lc := 0) (N := 0) (F := 0) hz46; obtain ⟨z0, z1, z2, z3, z4, z5, z6, z7⟩ := Sz8.sz (K := 0) (I := 0) (A := ⟨#[]⟩) (B := ⟨#[]⟩) (T := ⟨#[]⟩) (la := none) (ln := 0) (lc := 0) (N := 0) (F := 0) hz26; have t0 := hz26.thaw 0; have t1 := hz26.thaw 1; have t2 := hz26.thaw 2; have t3 := hz26.thaw 3; have t4 := hz26.thaw 4; have t5 := hz26.thaw 5; have t6 := hz26.thaw 6; have t7 := hz26.thaw 7))
  obtain ⟨hz8, hk8⟩ := store8 (K := 0) (I := 0) (A := ⟨#[]⟩) (B := ⟨#[]⟩) (T := ⟨#[]⟩) (la := none) (ln := 0) (lc := 0) (N := 0) (F := 0) hz26
  clear q0 q1 q2 q3 q4 q5 q6 q7 z0 z1 z2 z3 z4 z5 z6 z7 t0 t1 t2 t3 t4 t5 t6 t7
  generalize World.setCell _ _ (.float .f64 0) = w8 at hz8 hk8 ⊢
  obtain ⟨p0, p1, p2, p3, p4, p5, p6, p7⟩ := hz8.sz
  refine bodyPost_ret (v := .tuple #[.agg #[.int .i64 0, .int .u64 0, .string ⟨#[]⟩, .string ⟨#[]⟩, .string ⟨#[]⟩, .slice none 0 0, .int .i64 0, .float .f64 0], .int .i64 (E1 : Int)]) (by simp [results, Tryd.results17, go_sem, p0, p1, p2, p3, p4, p5, p6, p7]) rfl ?_
  rw [HR.out]
  exact ⟨none, 0, 0, rfl, srd_nil _, hb6.trans (hk8.below hb6.size (fun _ e => by omega))⟩

set_option maxHeartbeats 1600000 in
set_option maxRecDepth 100000 in
theorem rr_has0 (a : Option Addr) (n c : Nat) (X : List Int) (w : World) (hR : Rd w a n c X) (hn : n ≤ 100000) {N k I k1 : Nat} {Y : List Int} (hs : scan X 0 0 = (N, k, 0)) (hE : kn (N : Int) = true) (hs1 : scan (X.drop k) 0 0 = (I, k1, 0)) (hY : (X.drop k).drop k1 = Y) (hY0 : Y.length = 0) : Calls Tryd.prog 17 #[.slice a n c] w (AnsRR (rdSt X) w) := by
  have hsf := run_store_float
  have hb2 := w2_bel w
  have hz2 := w2_b2 w
  have hz4 := w2_b4 w
  have HZ2 : Hid (((w.alloc (.cells #[.int .i64 0, .int .u64 0, .string ⟨#[]⟩, .string ⟨#[]⟩, .string ⟨#[]⟩, .slice none 0 0, .int .i64 0, .float .f64 0] 26)).alloc (.cells #[.int .i64 0, .int .u64 0, .string ⟨#[]⟩, .string ⟨#[]⟩, .string ⟨#[]⟩, .slice none 0 0, .int .i64 0, .float .f64 0] 26)).heap.size = w.heap.size + 2) := w2_sz w
  have cU := refUintD X a n c _ (hR.carry (Nat.le_refl _) hb2) (by omega)
  unfold AnsU at cU
  have hK0 : kerr N 0 = 0 := by unfold kerr; rw [if_neg (by simp), hE]; rfl
  have hH : herr N Y = 2 := by unfold herr; rw [if_pos hY0]
  have HR : Hid (rdSt X = (0, 0, sz0, 2)) := by
    have := rdSt_has hs hK0 hs1 hY (by rw [hH]; decide)
    rw [hH] at this; exact this
  have hN47 := kn_bd hE
  have hw64 : wrap64 (N : Int) = (N : Int) := by unfold wrap64; omega
  have hwi : IntKind.i64.wrap (N : Int) = (N : Int) := by rw [IntKind.wrap_i64]; omega
  have hsm : decide ((2147483648 : Int) ≤ (N : Int)) = false := decide_eq_false (by omega)
  have hrp0 : rp (N : Int) = ((kp N : Nat) : Int) := by unfold rp; rw [hE, if_pos rfl, Int.toNat_natCast]
  have HRP : Hid (rp (N : Int) = ((kp N : Nat) : Int)) := hrp0
  have hrp : decide (rp (N : Int) < 0) = false := decide_eq_false (by rw [hrp0]; omega)
  clear hrp0
  have huN : uN X = N := by unfold uN; rw [hs]; rfl
  have huR : uR X = X.drop k := by unfold uR; rw [hs]; rfl
  rw [huN, huR, hs] at cU
  have hl1 : (X.drop k).length ≤ n := by rw [List.length_drop, hR.len]; omega
  clear hs huN huR hK0 hE
  generalize X.drop k = X1 at cU hs1 hl1 hY
  have huI : uN X1 = I := by unfold uN; rw [hs1]; rfl
  have huY : uR X1 = Y := by unfold uR; rw [hs1]; exact hY
  have hlY : Y.length ≤ n := by rw [← hY, List.length_drop]; omega
  have HI : Hid (uN X1 = I) := huI
  have HY : Hid (uR X1 = Y) := huY
  clear huI huY hY
  have tok : True := trivial
  go_enter Tryd.func17, Tryd.ntmps17
  go_wp2_with (first
    | (go_at_call 39; clear tok; refine cU.mono ?_; rintro e w3 ⟨a3, n3, c3, rfl, hr3, hx3⟩; have k3 := Keep.ofBelow (S := fun _ => False) hx3; have hb3 := hb2.trans (Below.mono hx3 hb2.size); have hz23 := hz2.keep k3 (fun h => h); have hz43 := hz4.keep k3 (fun h => h); have hn3 := hr3.len; have hs3 : w.heap.size + 2 ≤ w3.heap.size := (by rw [← HZ2.out]; exact Below.size hx3))
    | (go_at_call 28; refine (parts_any _ _).mono ?_; rintro e w4 ⟨rfl, hw4⟩; replace hw4 := hw4.symm; subst hw4)
    | (go_at_call 39; have hb4 : Below w3.heap.size w3 (w3.alloc (.cells #[.int .i64 (N : Int), .int .u64 0, .string ⟨#[]⟩, .string ⟨#[]⟩, .string ⟨#[]⟩, .slice none 0 0, .int .i64 0, .float .f64 0] 26)) := (Below.refl _ _).alloc (Nat.le_refl _) _; have k4 := Keep.ofBelow (S := fun _ => False) hb4; have cI := refUintD X1 a3 n3 c3 _ (hr3.carry (Nat.le_refl _) hb4) (by omega); unfold AnsU at cI; rw [hs1] at cI; rw [HI.out, HY.out] at cI; refine cI.mono ?_; rintro e w5 ⟨a5, n5, c5, rfl, hr5, hx5⟩; have k5 := Keep.ofBelow (S := fun _ => False) hx5; have hz25 := (hz23.keep k4 (fun h => h)).keep k5 (fun h => h); have hz45 := (hz43.keep k4 (fun h => h)).keep k5 (fun h => h); have hz75 := (Sz8K.new w3 N).keep k5 (fun h => h); have y1 := hz75.cell 1 (by omega); have u1 := hz75.thaw 1; have hb5 := hb3.trans ((hb4.trans (Below.mono hx5 hb4.size)).mono hb3.size); have hs5 : w3.heap.size < w5.heap.size := hz75.lt; have kS : Keep (fun k => k = w3.heap.size) w5 (w5.setCell ⟨w3.heap.size, 1, none⟩ (.int .u64 (I : Nat))) := (Keep.refl (fun k => k = w3.heap.size) w5).setCell (p := ⟨w3.heap.size, 1, none⟩) (show (fun k => k = w3.heap.size) w3.heap.size from rfl) _; have hz26 := hz25.keep kS (fun e => by omega); have hz46 := hz45.keep kS (fun e => by omega); have hb6 := hb5.trans (kS.below hb5.size (fun _ e => by omega)); have hz76 := hz75.set (i := 1) (by omega) (.int .u64 (I : Nat)); have hn5 : n5 = 0 := (by have := hr5.len; omega); subst hn5; obtain ⟨q0, q1, q2, q3, q4, q5, q6, q7⟩ := Sz8.sz (K := 0) (I := 0) (A := ⟨#[]⟩) (B := ⟨#[]⟩) (T := ⟨#[]⟩) (la := none) (ln := 0) (lc := 0) (N := 0) (F := 0) hz46; obtain ⟨z0, z1, z2, z3, z4, z5, z6, z7⟩ := Sz8.sz (K := 0) (I := 0) (A := ⟨#[]⟩) (B := ⟨#[]⟩) (T := ⟨#[]⟩) (la := none) (ln := 0) (lc := 0) (N := 0) (F := 0) hz26; have t0 := hz26.thaw 0; have t1 := hz26.thaw 1; have t2 := hz26.thaw 2; have t3 := hz26.thaw 3; have t4 := hz26.thaw 4; have t5 := hz26.thaw 5; have t6 := hz26.thaw 6; have t7 := hz26.thaw 7))
  obtain ⟨hz8, hk8⟩ := store8 (K := 0) (I := 0) (A := ⟨#[]⟩) (B := ⟨#[]⟩) (T := ⟨#[]⟩) (la := none) (ln := 0) (lc := 0) (N := 0) (F := 0) hz26
  clear q0 q1 q2 q3 q4 q5 q6 q7 z0 z1 z2 z3 z4 z5 z6 z7 t0 t1 t2 t3 t4 t5 t6 t7
  generalize World.setCell _ _ (.float .f64 0) = w8 at hz8 hk8 ⊢
  obtain ⟨p0, p1, p2, p3, p4, p5, p6, p7⟩ := hz8.sz
  refine bodyPost_ret (v := .tuple #[.agg #[.int .i64 0, .int .u64 0, .string ⟨#[]⟩, .string ⟨#[]⟩, .string ⟨#[]⟩, .slice none 0 0, .int .i64 0, .float .f64 0], .int .i64 2]) (by simp [results, Tryd.results17, go_sem, p0, p1, p2, p3, p4, p5, p6, p7]) rfl ?_
  rw [HR.out]
  exact ⟨none, 0, 0, rfl, srd_nil _, hb6.trans (hk8.below hb6.size (fun _ e => by omega))⟩


end Go.Proofs.YtomkcmkbehcjnaaDoor

/- The document's Read: the parts. -/
namespace Go.Proofs.YtomkcmkbehcjnaaDoor
open Go.RowKit

theorem rdTexts_rest : ∀ (m : Nat) (X : List Int), (rdTexts m X).2.2 = 0 → (rdTexts m X).2.1.length ≤ X.length
  | 0, _, _ => Nat.le_refl _
  | m + 1, X, h => by
    by_cases hE : terr X 1024 = 0
    · rw [rdTexts_step hE] at h ⊢
      have := rdTexts_rest m _ h
      rw [List.length_drop] at this
      exact Nat.le_trans this (by omega)
    · rw [rdTexts_stop hE] at h
      exact absurd h hE
theorem rdList_rest (X : List Int) (h : (rdList X).2.2 = 0) : (rdList X).2.1.length ≤ X.length := by
  unfold rdList at h ⊢
  split
  · simp
  · split
    · simp
    · rename_i g1 g2
      rw [if_neg g1, if_neg g2] at h
      have := rdTexts_rest _ _ h
      rw [List.length_drop] at this
      omega

theorem hbit64 (x : Nat) (hx : x < 256) (k : Nat) (hk : k < 6) {b : Bool} (h : hbit (x : Int) k = b) : (bits .and .i64 (x : Int) ((2 ^ k : Nat) : Int) == 0) = !b := by
  rw [and64 x hx k hk]
  exact not_zero h
theorem andb64 (A B T : ByteArray) (n : Nat) (N : Int) (F : Nat) (k : Nat) (hk : k < 6) : (bits .and .i64 ((thr A B T n N F : Nat) : Int) ((2 ^ k : Nat) : Int) == 0) = !((tbits A B T n N F).getD k false) := by
  rw [and64 _ (by have := thr_lt A B T n N F; omega) k hk]
  have hc : k = 0 ∨ k = 1 ∨ k = 2 ∨ k = 3 ∨ k = 4 ∨ k = 5 := by omega
  rcases hc with rfl | rfl | rfl | rfl | rfl | rfl
  · exact andb0 ..
  · exact andb1 ..
  · exact andb2 ..
  · exact andb3 ..
  · exact andb4 ..
  · exact andb5 ..

/-- What lies between the head and the parts. -/
structure RrS (w : World) (b7 : Nat) (vs : List Value) (wr : World) : Prop where
  bel : Below w.heap.size w wr
  f2 : Sz8 wr w.heap.size zcells
  f4 : Sz8 wr (w.heap.size + 1) zcells
  f7 : Sz8 wr b7 vs
  lt : w.heap.size + 2 ≤ b7
theorem srd_keep {w w' : World} {b : Nat} {la : Option Addr} {ln lc : Nat} {L : List ByteArray} (h : SRd w la ln lc L) (k : Keep (fun k => k = b) w w') (hn : ∀ ad, la = some ad → ad.block ≠ b) : SRd w' la ln lc L :=
  ⟨h.len, h.cap, h.most, h.nil, h.small, fun ad ha j hj => k.cell (h.cells ad ha j hj) (by
    have : (ad.add j).block = ad.block := by unfold Addr.add; split <;> rfl
    rw [this]; exact hn ad ha)⟩
theorem RrS.ext {w : World} {b7 : Nat} {vs : List Value} {wr wr' : World} (h : RrS w b7 vs wr) (k : Below wr.heap.size wr wr') : RrS w b7 vs wr' :=
  ⟨h.bel.trans (k.mono h.bel.size), h.f2.keep (Keep.ofBelow (S := fun _ => False) k) (fun h => h), h.f4.keep (Keep.ofBelow (S := fun _ => False) k) (fun h => h), h.f7.keep (Keep.ofBelow (S := fun _ => False) k) (fun h => h), h.lt⟩
theorem RrS.put {w : World} {b7 : Nat} {vs : List Value} {wr : World} (h : RrS w b7 vs wr) {i : Nat} (hi : i < 8) (v : Value) : RrS w b7 (vs.set i v) (wr.setCell ⟨b7, i, none⟩ v) ∧ Keep (fun k => k = b7) wr (wr.setCell ⟨b7, i, none⟩ v) := by
  have kS : Keep (fun k => k = b7) wr (wr.setCell ⟨b7, i, none⟩ v) := (Keep.refl (fun k => k = b7) wr).setCell (p := ⟨b7, i, none⟩) (show (fun k => k = b7) b7 from rfl) _
  have hl := h.lt
  exact ⟨⟨h.bel.trans (kS.below h.bel.size (fun _ e => by omega)), h.f2.keep kS (fun e => by omega), h.f4.keep kS (fun e => by omega), h.f7.set hi v, h.lt⟩, kS⟩

set_option maxHeartbeats 1600000 in
set_option maxRecDepth 100000 in
theorem rr_has2 (a : Option Addr) (n c : Nat) (X : List Int) (w : World) (hR : Rd w a n c X) (hn : n ≤ 100000) {N k I k1 : Nat} {Y : List Int} (hs : scan X 0 0 = (N, k, 0)) (hE : kn (N : Int) = true) (hs1 : scan (X.drop k) 0 0 = (I, k1, 0)) (hY : (X.drop k).drop k1 = Y) (hY0 : 0 < Y.length) (hH : herr N Y ≠ 0) : Calls Tryd.prog 17 #[.slice a n c] w (AnsRR (rdSt X) w) := by
  have hsf := run_store_float
  have hb2 := w2_bel w
  have hz2 := w2_b2 w
  have hz4 := w2_b4 w
  have HZ2 : Hid (((w.alloc (.cells #[.int .i64 0, .int .u64 0, .string ⟨#[]⟩, .string ⟨#[]⟩, .string ⟨#[]⟩, .slice none 0 0, .int .i64 0, .float .f64 0] 26)).alloc (.cells #[.int .i64 0, .int .u64 0, .string ⟨#[]⟩, .string ⟨#[]⟩, .string ⟨#[]⟩, .slice none 0 0, .int .i64 0, .float .f64 0] 26)).heap.size = w.heap.size + 2) := w2_sz w
  have cU := refUintD X a n c _ (hR.carry (Nat.le_refl _) hb2) (by omega)
  unfold AnsU at cU
  have hK0 : kerr N 0 = 0 := by unfold kerr; rw [if_neg (by simp), hE]; rfl
  have hYb := hY
  have hHv : herr N Y = 2 := by
    unfold herr at hH ⊢; rw [if_neg (by omega)] at hH ⊢
    split
    · rfl
    · rename_i g; rw [if_neg g] at hH; exact absurd rfl hH
  have HR : Hid (rdSt X = (0, 0, sz0, 2)) := by
    have := rdSt_has hs hK0 hs1 hY (by rw [hHv]; decide)
    rw [hHv] at this; exact this
  have hbx : (bits .andNot .u8 (Y.getD 0 0) ((kp N : Nat) : Int) != 0) = true := by
    unfold herr at hH; rw [if_neg (by omega)] at hH
    cases hb : (bits .andNot .u8 (Y.getD 0 0) ((kp N : Nat) : Int) != 0) with
    | true => rfl
    | false => rw [hb] at hH; exact absurd rfl hH
  have hN47 := kn_bd hE
  have hw64 : wrap64 (N : Int) = (N : Int) := by unfold wrap64; omega
  have hwi : IntKind.i64.wrap (N : Int) = (N : Int) := by rw [IntKind.wrap_i64]; omega
  have hsm : decide ((2147483648 : Int) ≤ (N : Int)) = false := decide_eq_false (by omega)
  have hrp0 : rp (N : Int) = ((kp N : Nat) : Int) := by unfold rp; rw [hE, if_pos rfl, Int.toNat_natCast]
  have HRP : Hid (rp (N : Int) = ((kp N : Nat) : Int)) := hrp0
  have hrp : decide (rp (N : Int) < 0) = false := decide_eq_false (by rw [hrp0]; omega)
  clear hrp0
  have huN : uN X = N := by unfold uN; rw [hs]; rfl
  have huR : uR X = X.drop k := by unfold uR; rw [hs]; rfl
  rw [huN, huR, hs] at cU
  have hl1 : (X.drop k).length ≤ n := by rw [List.length_drop, hR.len]; omega
  have hne5 : ∀ m : Nat, Y.length = m → (((m : Nat) : Int) == 0) = false := fun m hm => by simp; omega
  obtain ⟨x, hxe, hx256⟩ : ∃ x : Nat, Y.getD 0 0 = (x : Int) ∧ x < 256 := by
    have hbY : Bd Y := by rw [← hYb]; exact (hR.bytes.drop _).drop _
    have := hbY.get 0
    exact ⟨(Y.getD 0 0).toNat, by omega, by omega⟩
  have HXE : Hid (Y.getD 0 0 = (x : Int)) := hxe
  clear hxe
  have hb64 : (bits .andNot .i64 (x : Int) (rp (N : Int)) != 0) = true := by rw [HRP.out, andNot64 x hx256 _ (kp_lt N), ← HXE.out]; exact hbx
  clear hs huN huR hK0 hE hbx hYb
  generalize X.drop k = X1 at cU hs1 hl1 hY
  have huI : uN X1 = I := by unfold uN; rw [hs1]; rfl
  have huY : uR X1 = Y := by unfold uR; rw [hs1]; exact hY
  have hlY : Y.length ≤ n := by rw [← hY, List.length_drop]; omega
  have HI : Hid (uN X1 = I) := huI
  have HY : Hid (uR X1 = Y) := huY
  clear huI huY hY
  have tok : True := trivial
  go_enter Tryd.func17, Tryd.ntmps17
  go_upto_region 13 with (first
    | (go_at_call 39; clear tok; refine cU.mono ?_; rintro e w3 ⟨a3, n3, c3, rfl, hr3, hx3⟩; have k3 := Keep.ofBelow (S := fun _ => False) hx3; have hb3 := hb2.trans (Below.mono hx3 hb2.size); have hz23 := hz2.keep k3 (fun h => h); have hz43 := hz4.keep k3 (fun h => h); have hn3 := hr3.len; have hs3 : w.heap.size + 2 ≤ w3.heap.size := (by rw [← HZ2.out]; exact Below.size hx3))
    | (go_at_call 28; refine (parts_any _ _).mono ?_; rintro e w4 ⟨rfl, hw4⟩; replace hw4 := hw4.symm; subst hw4)
    | (go_at_call 39; have hb4 : Below w3.heap.size w3 (w3.alloc (.cells #[.int .i64 (N : Int), .int .u64 0, .string ⟨#[]⟩, .string ⟨#[]⟩, .string ⟨#[]⟩, .slice none 0 0, .int .i64 0, .float .f64 0] 26)) := (Below.refl _ _).alloc (Nat.le_refl _) _; have k4 := Keep.ofBelow (S := fun _ => False) hb4; have cI := refUintD X1 a3 n3 c3 _ (hr3.carry (Nat.le_refl _) hb4) (by omega); unfold AnsU at cI; rw [hs1] at cI; rw [HI.out, HY.out] at cI; refine cI.mono ?_; rintro e w5 ⟨a5, n5, c5, rfl, hr5, hx5⟩; have k5 := Keep.ofBelow (S := fun _ => False) hx5; have hz25 := (hz23.keep k4 (fun h => h)).keep k5 (fun h => h); have hz45 := (hz43.keep k4 (fun h => h)).keep k5 (fun h => h); have hz75 := (Sz8K.new w3 N).keep k5 (fun h => h); have y1 := hz75.cell 1 (by omega); have u1 := hz75.thaw 1; have hb5 := hb3.trans ((hb4.trans (Below.mono hx5 hb4.size)).mono hb3.size); have hs5 : w3.heap.size < w5.heap.size := hz75.lt; have kS : Keep (fun k => k = w3.heap.size) w5 (w5.setCell ⟨w3.heap.size, 1, none⟩ (.int .u64 (I : Nat))) := (Keep.refl (fun k => k = w3.heap.size) w5).setCell (p := ⟨w3.heap.size, 1, none⟩) (show (fun k => k = w3.heap.size) w3.heap.size from rfl) _; have hz26 := hz25.keep kS (fun e => by omega); have hz46 := hz45.keep kS (fun e => by omega); have hb6 := hb5.trans (kS.below hb5.size (fun _ e => by omega)); have hz76 := hz75.set (i := 1) (by omega) (.int .u64 (I : Nat)); have hq5 := hne5 n5 hr5.len))
  have hr6 := hr5.keepP kS (fun h0 ad he => hz75.apart (by simp) hr5 h0 ad he)
  have S6 : RrS w w3.heap.size [.int .i64 (N : Int), .int .u64 (I : Nat), .string ⟨#[]⟩, .string ⟨#[]⟩, .string ⟨#[]⟩, .slice none 0 0, .int .i64 0, .float .f64 0] (w5.setCell ⟨w3.heap.size, 1, none⟩ (.int .u64 (I : Nat))) := ⟨hb6, hz26, hz46, hz76, hs3⟩
  have hn5 : 0 < n5 := by rw [← hr5.len]; omega
  have hln5 := hr5.len
  generalize w5.setCell ⟨w3.heap.size, 1, none⟩ (.int .u64 (I : Nat)) = w6 at S6 hr6 ⊢
  generalize w3.heap.size = b7 at S6 ⊢
  clear hz2 hz4 hz23 hz43 hz25 hz45 hz75 hz26 hz46 hz76 hb2 hb3 hb5 hb6 k3 k4 k5 kS hx3 hx5 hr3 hr5 hb4 y1 u1 hs5 hs3 HZ2 cU cI
  obtain ⟨b5, o5, rfl, hcell5⟩ := hr6.flat hn5
  have hc5 : w6.cell? ⟨b5, o5, none⟩ = some (.int .u8 (x : Int)) := by have := hcell5 0 hn5; rw [HXE.out] at this; exact this
  clear hcell5
  have hk5 : w6.cell? ⟨b7, 0, none⟩ = some (.int .i64 (N : Int)) := S6.f7.cell 0 (by omega)
  have hnp5 : (0 : Int) < (n5 : Int) := by omega
  have hcap5 := hr6.cap
  have hmost5 := hr6.most
  unfold maxLen at hmost5
  have SS := S6
  obtain ⟨q0, q1, q2, q3, q4, q5, q6, q7⟩ := Sz8.sz (K := 0) (I := 0) (A := ⟨#[]⟩) (B := ⟨#[]⟩) (T := ⟨#[]⟩) (la := none) (ln := 0) (lc := 0) (N := 0) (F := 0) SS.f4; obtain ⟨z0, z1, z2, z3, z4, z5, z6, z7⟩ := Sz8.sz (K := 0) (I := 0) (A := ⟨#[]⟩) (B := ⟨#[]⟩) (T := ⟨#[]⟩) (la := none) (ln := 0) (lc := 0) (N := 0) (F := 0) SS.f2; have t0 := SS.f2.thaw 0; have t1 := SS.f2.thaw 1; have t2 := SS.f2.thaw 2; have t3 := SS.f2.thaw 3; have t4 := SS.f2.thaw 4; have t5 := SS.f2.thaw 5; have t6 := SS.f2.thaw 6; have t7 := SS.f2.thaw 7
  by_cases hc1 : c5 = 1
  · subst hc1
    go_wp2_with (go_at_call 28; refine (parts_any _ _).mono ?_; rintro e w4 ⟨rfl, hw4⟩; replace hw4 := hw4.symm; subst hw4)
    obtain ⟨hz8, hk8⟩ := store8 (K := 0) (I := 0) (A := ⟨#[]⟩) (B := ⟨#[]⟩) (T := ⟨#[]⟩) (la := none) (ln := 0) (lc := 0) (N := 0) (F := 0) S6.f2
    clear q0 q1 q2 q3 q4 q5 q6 q7 z0 z1 z2 z3 z4 z5 z6 z7 t0 t1 t2 t3 t4 t5 t6 t7
    generalize World.setCell _ _ (.float .f64 0) = w8 at hz8 hk8 ⊢
    obtain ⟨p0, p1, p2, p3, p4, p5, p6, p7⟩ := hz8.sz
    refine bodyPost_ret (v := .tuple #[.agg #[.int .i64 0, .int .u64 0, .string ⟨#[]⟩, .string ⟨#[]⟩, .string ⟨#[]⟩, .slice none 0 0, .int .i64 0, .float .f64 0], .int .i64 2]) (by simp [results, Tryd.results17, go_sem, p0, p1, p2, p3, p4, p5, p6, p7]) rfl ?_
    rw [HR.out]
    exact ⟨none, 0, 0, rfl, srd_nil _, S6.bel.trans (hk8.below S6.bel.size (fun _ e => by omega))⟩
  · go_wp2_with (go_at_call 28; refine (parts_any _ _).mono ?_; rintro e w4 ⟨rfl, hw4⟩; replace hw4 := hw4.symm; subst hw4)
    obtain ⟨hz8, hk8⟩ := store8 (K := 0) (I := 0) (A := ⟨#[]⟩) (B := ⟨#[]⟩) (T := ⟨#[]⟩) (la := none) (ln := 0) (lc := 0) (N := 0) (F := 0) S6.f2
    clear q0 q1 q2 q3 q4 q5 q6 q7 z0 z1 z2 z3 z4 z5 z6 z7 t0 t1 t2 t3 t4 t5 t6 t7
    generalize World.setCell _ _ (.float .f64 0) = w8 at hz8 hk8 ⊢
    obtain ⟨p0, p1, p2, p3, p4, p5, p6, p7⟩ := hz8.sz
    refine bodyPost_ret (v := .tuple #[.agg #[.int .i64 0, .int .u64 0, .string ⟨#[]⟩, .string ⟨#[]⟩, .string ⟨#[]⟩, .slice none 0 0, .int .i64 0, .float .f64 0], .int .i64 2]) (by simp [results, Tryd.results17, go_sem, p0, p1, p2, p3, p4, p5, p6, p7]) rfl ?_
    rw [HR.out]
    exact ⟨none, 0, 0, rfl, srd_nil _, S6.bel.trans (hk8.below S6.bel.size (fun _ e => by omega))⟩

set_option maxHeartbeats 1600000 in
set_option maxRecDepth 100000 in
theorem rr_parts (a : Option Addr) (n c : Nat) (X : List Int) (w : World) (hR : Rd w a n c X) (hn : n ≤ 100000) {N k I k1 : Nat} {Y : List Int} (hs : scan X 0 0 = (N, k, 0)) (hE : kn (N : Int) = true) (hs1 : scan (X.drop k) 0 0 = (I, k1, 0)) (hY : (X.drop k).drop k1 = Y) (hY0 : 0 < Y.length) (hH : herr N Y = 0) : Calls Tryd.prog 17 #[.slice a n c] w (AnsRR (rdSt X) w) := by
  have hsf := run_store_float
  have hb2 := w2_bel w
  have hz2 := w2_b2 w
  have hz4 := w2_b4 w
  have HZ2 : Hid (((w.alloc (.cells #[.int .i64 0, .int .u64 0, .string ⟨#[]⟩, .string ⟨#[]⟩, .string ⟨#[]⟩, .slice none 0 0, .int .i64 0, .float .f64 0] 26)).alloc (.cells #[.int .i64 0, .int .u64 0, .string ⟨#[]⟩, .string ⟨#[]⟩, .string ⟨#[]⟩, .slice none 0 0, .int .i64 0, .float .f64 0] 26)).heap.size = w.heap.size + 2) := w2_sz w
  have cU := refUintD X a n c _ (hR.carry (Nat.le_refl _) hb2) (by omega)
  unfold AnsU at cU
  have hK0 : kerr N 0 = 0 := by unfold kerr; rw [if_neg (by simp), hE]; rfl
  have hYb := hY
  have hbx : (bits .andNot .u8 (Y.getD 0 0) ((kp N : Nat) : Int) != 0) = false := by
    unfold herr at hH; rw [if_neg (by omega)] at hH
    cases hb : (bits .andNot .u8 (Y.getD 0 0) ((kp N : Nat) : Int) != 0) with
    | true => rw [hb] at hH; cases hH
    | false => rfl
  have hN47 := kn_bd hE
  have hw64 : wrap64 (N : Int) = (N : Int) := by unfold wrap64; omega
  have hwi : IntKind.i64.wrap (N : Int) = (N : Int) := by rw [IntKind.wrap_i64]; omega
  have hsm : decide ((2147483648 : Int) ≤ (N : Int)) = false := decide_eq_false (by omega)
  have hrp0 : rp (N : Int) = ((kp N : Nat) : Int) := by unfold rp; rw [hE, if_pos rfl, Int.toNat_natCast]
  have HRP : Hid (rp (N : Int) = ((kp N : Nat) : Int)) := hrp0
  have hrp : decide (rp (N : Int) < 0) = false := decide_eq_false (by rw [hrp0]; omega)
  clear hrp0
  have huN : uN X = N := by unfold uN; rw [hs]; rfl
  have huR : uR X = X.drop k := by unfold uR; rw [hs]; rfl
  rw [huN, huR, hs] at cU
  have hl1 : (X.drop k).length ≤ n := by rw [List.length_drop, hR.len]; omega
  have hne5 : ∀ m : Nat, Y.length = m → (((m : Nat) : Int) == 0) = false := fun m hm => by simp; omega
  obtain ⟨x, hxe, hx256⟩ : ∃ x : Nat, Y.getD 0 0 = (x : Int) ∧ x < 256 := by
    have hbY : Bd Y := by rw [← hYb]; exact (hR.bytes.drop _).drop _
    have := hbY.get 0
    exact ⟨(Y.getD 0 0).toNat, by omega, by omega⟩
  have HXE : Hid (Y.getD 0 0 = (x : Int)) := hxe
  clear hxe
  have hb64 : (bits .andNot .i64 (x : Int) (rp (N : Int)) != 0) = false := by rw [HRP.out, andNot64 x hx256 _ (kp_lt N), ← HXE.out]; exact hbx
  have HR : Hid (∀ z Z e, rdFrom (x : Int) 6 0 sz0 (Y.drop 1) = (z, Z, e) → rdSt X = if e ≠ 0 then (0, 0, sz0, e) else if Z.length ≠ 0 then (0, 0, sz0, 2) else (N, I, z, 0)) := fun z Z e hp => rdSt_parts hs hK0 hs1 hY hH (by rw [HXE.out]; exact hp)
  clear hs huN huR hK0 hE hbx hYb hH
  generalize X.drop k = X1 at cU hs1 hl1 hY
  have huI : uN X1 = I := by unfold uN; rw [hs1]; rfl
  have huY : uR X1 = Y := by unfold uR; rw [hs1]; exact hY
  have hlY : Y.length ≤ n := by rw [← hY, List.length_drop]; omega
  have HI : Hid (uN X1 = I) := huI
  have HY : Hid (uR X1 = Y) := huY
  clear huI huY hY
  have tok : True := trivial
  go_enter Tryd.func17, Tryd.ntmps17
  go_upto_region 13 with (first
    | (go_at_call 39; clear tok; refine cU.mono ?_; rintro e w3 ⟨a3, n3, c3, rfl, hr3, hx3⟩; have k3 := Keep.ofBelow (S := fun _ => False) hx3; have hb3 := hb2.trans (Below.mono hx3 hb2.size); have hz23 := hz2.keep k3 (fun h => h); have hz43 := hz4.keep k3 (fun h => h); have hn3 := hr3.len; have hs3 : w.heap.size + 2 ≤ w3.heap.size := (by rw [← HZ2.out]; exact Below.size hx3))
    | (go_at_call 28; refine (parts_any _ _).mono ?_; rintro e w4 ⟨rfl, hw4⟩; replace hw4 := hw4.symm; subst hw4)
    | (go_at_call 39; have hb4 : Below w3.heap.size w3 (w3.alloc (.cells #[.int .i64 (N : Int), .int .u64 0, .string ⟨#[]⟩, .string ⟨#[]⟩, .string ⟨#[]⟩, .slice none 0 0, .int .i64 0, .float .f64 0] 26)) := (Below.refl _ _).alloc (Nat.le_refl _) _; have k4 := Keep.ofBelow (S := fun _ => False) hb4; have cI := refUintD X1 a3 n3 c3 _ (hr3.carry (Nat.le_refl _) hb4) (by omega); unfold AnsU at cI; rw [hs1] at cI; rw [HI.out, HY.out] at cI; refine cI.mono ?_; rintro e w5 ⟨a5, n5, c5, rfl, hr5, hx5⟩; have k5 := Keep.ofBelow (S := fun _ => False) hx5; have hz25 := (hz23.keep k4 (fun h => h)).keep k5 (fun h => h); have hz45 := (hz43.keep k4 (fun h => h)).keep k5 (fun h => h); have hz75 := (Sz8K.new w3 N).keep k5 (fun h => h); have y1 := hz75.cell 1 (by omega); have u1 := hz75.thaw 1; have hb5 := hb3.trans ((hb4.trans (Below.mono hx5 hb4.size)).mono hb3.size); have hs5 : w3.heap.size < w5.heap.size := hz75.lt; have kS : Keep (fun k => k = w3.heap.size) w5 (w5.setCell ⟨w3.heap.size, 1, none⟩ (.int .u64 (I : Nat))) := (Keep.refl (fun k => k = w3.heap.size) w5).setCell (p := ⟨w3.heap.size, 1, none⟩) (show (fun k => k = w3.heap.size) w3.heap.size from rfl) _; have hz26 := hz25.keep kS (fun e => by omega); have hz46 := hz45.keep kS (fun e => by omega); have hb6 := hb5.trans (kS.below hb5.size (fun _ e => by omega)); have hz76 := hz75.set (i := 1) (by omega) (.int .u64 (I : Nat)); have hq5 := hne5 n5 hr5.len))
  have hr6 := hr5.keepP kS (fun h0 ad he => hz75.apart (by simp) hr5 h0 ad he)
  have S6 : RrS w w3.heap.size [.int .i64 (N : Int), .int .u64 (I : Nat), .string ⟨#[]⟩, .string ⟨#[]⟩, .string ⟨#[]⟩, .slice none 0 0, .int .i64 0, .float .f64 0] (w5.setCell ⟨w3.heap.size, 1, none⟩ (.int .u64 (I : Nat))) := ⟨hb6, hz26, hz46, hz76, hs3⟩
  have hn5 : 0 < n5 := by rw [← hr5.len]; omega
  have hln5 := hr5.len
  generalize w5.setCell ⟨w3.heap.size, 1, none⟩ (.int .u64 (I : Nat)) = w6 at S6 hr6 ⊢
  generalize w3.heap.size = b7 at S6 ⊢
  clear hz2 hz4 hz23 hz43 hz25 hz45 hz75 hz26 hz46 hz76 hb2 hb3 hb5 hb6 k3 k4 k5 kS hx3 hx5 hr3 hr5 hb4 y1 u1 hs5 hs3 HZ2 cU cI
  obtain ⟨b5, o5, rfl, hcell5⟩ := hr6.flat hn5
  have hc5 : w6.cell? ⟨b5, o5, none⟩ = some (.int .u8 (x : Int)) := by have := hcell5 0 hn5; rw [HXE.out] at this; exact this
  clear hcell5
  have hk5 : w6.cell? ⟨b7, 0, none⟩ = some (.int .i64 (N : Int)) := S6.f7.cell 0 (by omega)
  have hnp5 : (0 : Int) < (n5 : Int) := by omega
  have hcap5 := hr6.cap
  have hmost5 := hr6.most
  unfold maxLen at hmost5
  have hlY1 : (Y.drop 1).length ≤ n := by rw [List.length_drop]; omega
  go_upto_region 14 with fail
  go_cut [0] from 52 to 53 (fun b wx => ∃ a7 n7 c7, b = .slice a7 n7 c7 ∧ Rd wx a7 n7 c7 (Y.drop 1) ∧ wx = w6)
  case first =>
    clear hc5 hk5
    by_cases hc1 : c5 = 1
    · subst hc1
      go_wp2
      go_meet
      case rel => exact ⟨_, _, _, rfl, by rw [show Y.drop 1 = [] from List.drop_of_length_le (by omega)]; exact hr6.cutAll, rfl⟩
    · go_wp2
      go_meet
      case rel => exact ⟨_, _, _, rfl, hr6.cut 1, rfl⟩
  obtain ⟨a7, n7, c7, rfl, hr7, hwc⟩ := hcut
  replace hwc := hwc.symm
  subst hwc
  clear hr6 hc5 hcap5 hmost5 hn5 hnp5 hln5
  generalize Y.drop 1 = Y1 at hr7 HR hlY1
  go_wp2_with (go_at_call 28; refine (parts_any _ _).mono ?_; rintro e w4 ⟨rfl, hw4⟩; replace hw4 := hw4.symm; subst hw4)
  clear hk5 hb64 hrp hw64 hwi hsm HI HY HXE
  go_loopw [0, 9] (fun b v wr => ∃ (k m : Nat) (A B T : ByteArray) (L : List ByteArray) (la : Option Addr) (ln lc : Nat) (Nn : Int) (F : Nat) (Z : List Int) (a2 : Option Addr) (n2 c2 : Nat), k + m = 6 ∧ v = .int .i64 ((2 ^ k : Nat) : Int) ∧ b = .slice a2 n2 c2 ∧ Rd wr a2 n2 c2 Z ∧ Z.length ≤ n ∧ Hid (rdFrom (x : Int) 6 0 sz0 Y1 = rdFrom (x : Int) m k ⟨A, B, T, L, Nn, F⟩ Z) ∧ RrS w b7 [.int .i64 (N : Int), .int .u64 (I : Nat), .string A, .string B, .string T, .slice la ln lc, .int .i64 Nn, .float .f64 F] wr ∧ SRd wr la ln lc L ∧ ∀ ad, la = some ad → b7 < ad.block) (fun _ v _ => 64 - (intOf v).toNat)
  case atStart => exact ⟨0, 6, _, _, _, _, _, _, _, _, _, _, a7, n7, c7, by omega, rfl, rfl, hr7, hlY1, rfl, S6, srd_nil _, (fun _ h => by cases h)⟩
  case round =>
    obtain ⟨k, m, A, B, T, L, la, ln, lc, Nn, F, Z, a2, n2, c2, hkm, rfl, rfl, hr2, hZl, HF, SS, hsl, hnl⟩ := hrel
    clear S6 hr7
    have hn2 := hr2.len
    have hln := hsl.len
    have hcase : k = 0 ∨ k = 1 ∨ k = 2 ∨ k = 3 ∨ k = 4 ∨ k = 5 ∨ k = 6 := by omega
    rcases hcase with rfl | rfl | rfl | rfl | rfl | rfl | rfl
    · obtain rfl : m = 6 - 0 := by omega
      cases hb : hbit (x : Int) 0 with
      | false =>
        have hb' : (bits .and .i64 (x : Int) 1 == 0) = true := hbit64 x hx256 0 (by omega) hb
        have HF' : Hid (rdFrom (x : Int) 6 0 sz0 Y1 = rdFrom (x : Int) 5 1 ⟨A, B, T, L, Nn, F⟩ Z) := HF.out.trans (rdFrom_no hb)
        clear HF hb
        go_wp2
        go_roundw
        case rel => exact ⟨1, 5, A, B, T, L, la, ln, lc, Nn, F, Z, a2, n2, c2, by omega, rfl, rfl, hr2, hZl, HF', SS, hsl, hnl⟩
        case measure => simp [intOf]
      | true =>
        have hb' : (bits .and .i64 (x : Int) 1 == 0) = false := hbit64 x hx256 0 (by omega) hb
        have cP := refTextD Z 1024 a2 n2 c2 wr hr2 (by omega) (by omega) (by omega)
        unfold AnsT at cP
        by_cases hE : terr Z 1024 = 0
        · have hvR : tR Z 1024 = Z.drop (tlen Z) := by unfold tR tlen; rw [if_pos hE, List.drop_drop]
          rw [hE, hvR] at cP
          skip
          have hZl' : (Z.drop (tlen Z)).length ≤ n := by rw [List.length_drop]; omega
          cases ht : (tbits (tN Z 1024) B T ln Nn F).getD 0 false with
          | true =>
            have ht' : (Sz.bits ⟨(tN Z 1024), B, T, L, Nn, F⟩).getD 0 false = true := by show (tbits _ _ _ L.length _ _).getD 0 false = true; rw [hln]; exact ht
            have HF' : Hid (rdFrom (x : Int) 6 0 sz0 Y1 = rdFrom (x : Int) 5 1 ⟨(tN Z 1024), B, T, L, Nn, F⟩ (Z.drop (tlen Z))) := HF.out.trans (rdFrom_go hb hE ht')
            have htz : (bits .and .i64 ((thr (tN Z 1024) B T ln Nn F : Nat) : Int) 1 == 0) = false := (andb64 (tN Z 1024) B T ln Nn F 0 (by omega)).trans (by rw [ht]; rfl)
            clear ht' ht hE HF hb hvR
            generalize Z.drop (tlen Z) = Z' at cP HF' hZl'
            generalize tN Z 1024 = S at cP HF' htz
            go_wp2_with (first
              | (go_at_call 40; refine cP.mono ?_; rintro e w2 ⟨a3, n3, c3, rfl, hr3, hx3⟩; have S2 := SS.ext hx3; have hsl2 := hsl.carry hx3; have y1 := S2.f7.cell 2 (by omega); have u1 := S2.f7.thaw 2; obtain ⟨S3, kS⟩ := S2.put (i := 2) (by omega) (.string S); have hr4 := hr3.keepP kS (fun h0 ad he => S2.f7.apart (by simp) hr3 h0 ad he); have hsl3 := srd_keep hsl2 kS (fun ad he => by have := hnl ad he; omega); have S3' : RrS w b7 [.int .i64 (N : Int), .int .u64 (I : Nat), .string S, .string B, .string T, .slice la ln lc, .int .i64 Nn, .float .f64 F] (w2.setCell ⟨b7, 2, none⟩ (.string S)) := S3; obtain ⟨g0, g1, g2, g3, g4, g5, g6, g7⟩ := S3'.f7.sz)
              | (go_at_call 29; refine (refThere_any _ I S B T la ln lc Nn F _).mono ?_; rintro e w4 ⟨rfl, hb4⟩))
            go_roundw
            case rel => exact ⟨1, 5, S, B, T, L, la, ln, lc, Nn, F, Z', a3, n3, c3, by omega, rfl, rfl, hr4.carry (Nat.le_refl _) hb4, hZl', HF', S3'.ext hb4, hsl3.carry hb4, hnl⟩
            case measure => simp [intOf]
          | false =>
            have ht' : (Sz.bits ⟨(tN Z 1024), B, T, L, Nn, F⟩).getD 0 false = false := by show (tbits _ _ _ L.length _ _).getD 0 false = false; rw [hln]; exact ht
            have HF' : Hid (rdFrom (x : Int) 6 0 sz0 Y1 = (⟨(tN Z 1024), B, T, L, Nn, F⟩, Z.drop (tlen Z), 2)) := HF.out.trans (rdFrom_void hb hE ht')
            have htz : (bits .and .i64 ((thr (tN Z 1024) B T ln Nn F : Nat) : Int) 1 == 0) = true := (andb64 (tN Z 1024) B T ln Nn F 0 (by omega)).trans (by rw [ht]; rfl)
            clear ht' ht hE HF hb hvR
            generalize Z.drop (tlen Z) = Z' at cP HF' hZl'
            generalize tN Z 1024 = S at cP HF' htz
            go_wp2_with (first
              | (go_at_call 40; refine cP.mono ?_; rintro e w2 ⟨a3, n3, c3, rfl, hr3, hx3⟩; have S2 := SS.ext hx3; have hsl2 := hsl.carry hx3; have y1 := S2.f7.cell 2 (by omega); have u1 := S2.f7.thaw 2; obtain ⟨S3, kS⟩ := S2.put (i := 2) (by omega) (.string S); have hr4 := hr3.keepP kS (fun h0 ad he => S2.f7.apart (by simp) hr3 h0 ad he); have hsl3 := srd_keep hsl2 kS (fun ad he => by have := hnl ad he; omega); have S3' : RrS w b7 [.int .i64 (N : Int), .int .u64 (I : Nat), .string S, .string B, .string T, .slice la ln lc, .int .i64 Nn, .float .f64 F] (w2.setCell ⟨b7, 2, none⟩ (.string S)) := S3; obtain ⟨g0, g1, g2, g3, g4, g5, g6, g7⟩ := S3'.f7.sz)
              | (go_at_call 29; refine (refThere_any _ I S B T la ln lc Nn F _).mono ?_; rintro e w4 ⟨rfl, hb4⟩; have SX := S3'.ext hb4; obtain ⟨q0, q1, q2, q3, q4, q5, q6, q7⟩ := Sz8.sz (K := 0) (I := 0) (A := ⟨#[]⟩) (B := ⟨#[]⟩) (T := ⟨#[]⟩) (la := none) (ln := 0) (lc := 0) (N := 0) (F := 0) SX.f4; obtain ⟨z0, z1, z2, z3, z4, z5, z6, z7⟩ := Sz8.sz (K := 0) (I := 0) (A := ⟨#[]⟩) (B := ⟨#[]⟩) (T := ⟨#[]⟩) (la := none) (ln := 0) (lc := 0) (N := 0) (F := 0) SX.f2; have t0 := SX.f2.thaw 0; have t1 := SX.f2.thaw 1; have t2 := SX.f2.thaw 2; have t3 := SX.f2.thaw 3; have t4 := SX.f2.thaw 4; have t5 := SX.f2.thaw 5; have t6 := SX.f2.thaw 6; have t7 := SX.f2.thaw 7))
            obtain ⟨hz8, hk8⟩ := store8 (K := 0) (I := 0) (A := ⟨#[]⟩) (B := ⟨#[]⟩) (T := ⟨#[]⟩) (la := none) (ln := 0) (lc := 0) (N := 0) (F := 0) SX.f2
            clear q0 q1 q2 q3 q4 q5 q6 q7 z0 z1 z2 z3 z4 z5 z6 z7 t0 t1 t2 t3 t4 t5 t6 t7
            generalize World.setCell _ _ (.float .f64 0) = w8 at hz8 hk8 ⊢
            obtain ⟨p0, p1, p2, p3, p4, p5, p6, p7⟩ := hz8.sz
            refine bodyPost_ret (v := .tuple #[.agg #[.int .i64 0, .int .u64 0, .string ⟨#[]⟩, .string ⟨#[]⟩, .string ⟨#[]⟩, .slice none 0 0, .int .i64 0, .float .f64 0], .int .i64 2]) (by simp [results, Tryd.results17, go_sem, p0, p1, p2, p3, p4, p5, p6, p7]) rfl ?_
            rw [HR.out _ _ _ HF'.out, if_pos (by decide)]
            exact ⟨none, 0, 0, rfl, srd_nil _, SX.bel.trans (hk8.below SX.bel.size (fun _ e => by omega))⟩
        · have hE' : (((terr Z 1024 : Nat) : Int) != 0) = true := by simp; omega
          have HF' : Hid (rdFrom (x : Int) 6 0 sz0 Y1 = (⟨(tN Z 1024), B, T, L, Nn, F⟩, Z.drop (tlen Z), terr Z 1024)) := HF.out.trans (rdFrom_err hb hE)
          have HRE : Hid (rdSt X = (0, 0, sz0, terr Z 1024)) := by rw [HR.out _ _ _ HF'.out, if_pos hE]; rfl
          clear HF HF' hb
          generalize terr Z 1024 = EE at cP hE hE' HRE
          generalize tN Z 1024 = S at cP
          go_wp2_with (first
            | (go_at_call 40; refine cP.mono ?_; rintro e w2 ⟨a3, n3, c3, rfl, hr3, hx3⟩; have S2 := SS.ext hx3; have hsl2 := hsl.carry hx3; have y1 := S2.f7.cell 2 (by omega); have u1 := S2.f7.thaw 2; obtain ⟨S3, kS⟩ := S2.put (i := 2) (by omega) (.string S); have hr4 := hr3.keepP kS (fun h0 ad he => S2.f7.apart (by simp) hr3 h0 ad he); have hsl3 := srd_keep hsl2 kS (fun ad he => by have := hnl ad he; omega); have S3' : RrS w b7 [.int .i64 (N : Int), .int .u64 (I : Nat), .string S, .string B, .string T, .slice la ln lc, .int .i64 Nn, .float .f64 F] (w2.setCell ⟨b7, 2, none⟩ (.string S)) := S3; have SX := S3; obtain ⟨q0, q1, q2, q3, q4, q5, q6, q7⟩ := Sz8.sz (K := 0) (I := 0) (A := ⟨#[]⟩) (B := ⟨#[]⟩) (T := ⟨#[]⟩) (la := none) (ln := 0) (lc := 0) (N := 0) (F := 0) SX.f4; obtain ⟨z0, z1, z2, z3, z4, z5, z6, z7⟩ := Sz8.sz (K := 0) (I := 0) (A := ⟨#[]⟩) (B := ⟨#[]⟩) (T := ⟨#[]⟩) (la := none) (ln := 0) (lc := 0) (N := 0) (F := 0) SX.f2; have t0 := SX.f2.thaw 0; have t1 := SX.f2.thaw 1; have t2 := SX.f2.thaw 2; have t3 := SX.f2.thaw 3; have t4 := SX.f2.thaw 4; have t5 := SX.f2.thaw 5; have t6 := SX.f2.thaw 6; have t7 := SX.f2.thaw 7))
          obtain ⟨hz8, hk8⟩ := store8 (K := 0) (I := 0) (A := ⟨#[]⟩) (B := ⟨#[]⟩) (T := ⟨#[]⟩) (la := none) (ln := 0) (lc := 0) (N := 0) (F := 0) SX.f2
          clear q0 q1 q2 q3 q4 q5 q6 q7 z0 z1 z2 z3 z4 z5 z6 z7 t0 t1 t2 t3 t4 t5 t6 t7
          generalize World.setCell _ _ (.float .f64 0) = w8 at hz8 hk8 ⊢
          obtain ⟨p0, p1, p2, p3, p4, p5, p6, p7⟩ := hz8.sz
          refine bodyPost_ret (v := .tuple #[.agg #[.int .i64 0, .int .u64 0, .string ⟨#[]⟩, .string ⟨#[]⟩, .string ⟨#[]⟩, .slice none 0 0, .int .i64 0, .float .f64 0], .int .i64 (EE : Int)]) (by simp [results, Tryd.results17, go_sem, p0, p1, p2, p3, p4, p5, p6, p7]) rfl ?_
          rw [HRE.out]
          exact ⟨none, 0, 0, rfl, srd_nil _, SX.bel.trans (hk8.below SX.bel.size (fun _ e => by omega))⟩
    · obtain rfl : m = 6 - 1 := by omega
      cases hb : hbit (x : Int) 1 with
      | false =>
        have hb' : (bits .and .i64 (x : Int) 2 == 0) = true := hbit64 x hx256 1 (by omega) hb
        have HF' : Hid (rdFrom (x : Int) 6 0 sz0 Y1 = rdFrom (x : Int) 4 2 ⟨A, B, T, L, Nn, F⟩ Z) := HF.out.trans (rdFrom_no hb)
        clear HF hb
        go_wp2
        go_roundw
        case rel => exact ⟨2, 4, A, B, T, L, la, ln, lc, Nn, F, Z, a2, n2, c2, by omega, rfl, rfl, hr2, hZl, HF', SS, hsl, hnl⟩
        case measure => simp [intOf]
      | true =>
        have hb' : (bits .and .i64 (x : Int) 2 == 0) = false := hbit64 x hx256 1 (by omega) hb
        have cP := refTextD Z 1024 a2 n2 c2 wr hr2 (by omega) (by omega) (by omega)
        unfold AnsT at cP
        by_cases hE : terr Z 1024 = 0
        · have hvR : tR Z 1024 = Z.drop (tlen Z) := by unfold tR tlen; rw [if_pos hE, List.drop_drop]
          rw [hE, hvR] at cP
          skip
          have hZl' : (Z.drop (tlen Z)).length ≤ n := by rw [List.length_drop]; omega
          cases ht : (tbits A (tN Z 1024) T ln Nn F).getD 1 false with
          | true =>
            have ht' : (Sz.bits ⟨A, (tN Z 1024), T, L, Nn, F⟩).getD 1 false = true := by show (tbits _ _ _ L.length _ _).getD 1 false = true; rw [hln]; exact ht
            have HF' : Hid (rdFrom (x : Int) 6 0 sz0 Y1 = rdFrom (x : Int) 4 2 ⟨A, (tN Z 1024), T, L, Nn, F⟩ (Z.drop (tlen Z))) := HF.out.trans (rdFrom_go hb hE ht')
            have htz : (bits .and .i64 ((thr A (tN Z 1024) T ln Nn F : Nat) : Int) 2 == 0) = false := (andb64 A (tN Z 1024) T ln Nn F 1 (by omega)).trans (by rw [ht]; rfl)
            clear ht' ht hE HF hb hvR
            generalize Z.drop (tlen Z) = Z' at cP HF' hZl'
            generalize tN Z 1024 = S at cP HF' htz
            go_wp2_with (first
              | (go_at_call 40; refine cP.mono ?_; rintro e w2 ⟨a3, n3, c3, rfl, hr3, hx3⟩; have S2 := SS.ext hx3; have hsl2 := hsl.carry hx3; have y1 := S2.f7.cell 3 (by omega); have u1 := S2.f7.thaw 3; obtain ⟨S3, kS⟩ := S2.put (i := 3) (by omega) (.string S); have hr4 := hr3.keepP kS (fun h0 ad he => S2.f7.apart (by simp) hr3 h0 ad he); have hsl3 := srd_keep hsl2 kS (fun ad he => by have := hnl ad he; omega); have S3' : RrS w b7 [.int .i64 (N : Int), .int .u64 (I : Nat), .string A, .string S, .string T, .slice la ln lc, .int .i64 Nn, .float .f64 F] (w2.setCell ⟨b7, 3, none⟩ (.string S)) := S3; obtain ⟨g0, g1, g2, g3, g4, g5, g6, g7⟩ := S3'.f7.sz)
              | (go_at_call 29; refine (refThere_any _ I A S T la ln lc Nn F _).mono ?_; rintro e w4 ⟨rfl, hb4⟩))
            go_roundw
            case rel => exact ⟨2, 4, A, S, T, L, la, ln, lc, Nn, F, Z', a3, n3, c3, by omega, rfl, rfl, hr4.carry (Nat.le_refl _) hb4, hZl', HF', S3'.ext hb4, hsl3.carry hb4, hnl⟩
            case measure => simp [intOf]
          | false =>
            have ht' : (Sz.bits ⟨A, (tN Z 1024), T, L, Nn, F⟩).getD 1 false = false := by show (tbits _ _ _ L.length _ _).getD 1 false = false; rw [hln]; exact ht
            have HF' : Hid (rdFrom (x : Int) 6 0 sz0 Y1 = (⟨A, (tN Z 1024), T, L, Nn, F⟩, Z.drop (tlen Z), 2)) := HF.out.trans (rdFrom_void hb hE ht')
            have htz : (bits .and .i64 ((thr A (tN Z 1024) T ln Nn F : Nat) : Int) 2 == 0) = true := (andb64 A (tN Z 1024) T ln Nn F 1 (by omega)).trans (by rw [ht]; rfl)
            clear ht' ht hE HF hb hvR
            generalize Z.drop (tlen Z) = Z' at cP HF' hZl'
            generalize tN Z 1024 = S at cP HF' htz
            go_wp2_with (first
              | (go_at_call 40; refine cP.mono ?_; rintro e w2 ⟨a3, n3, c3, rfl, hr3, hx3⟩; have S2 := SS.ext hx3; have hsl2 := hsl.carry hx3; have y1 := S2.f7.cell 3 (by omega); have u1 := S2.f7.thaw 3; obtain ⟨S3, kS⟩ := S2.put (i := 3) (by omega) (.string S); have hr4 := hr3.keepP kS (fun h0 ad he => S2.f7.apart (by simp) hr3 h0 ad he); have hsl3 := srd_keep hsl2 kS (fun ad he => by have := hnl ad he; omega); have S3' : RrS w b7 [.int .i64 (N : Int), .int .u64 (I : Nat), .string A, .string S, .string T, .slice la ln lc, .int .i64 Nn, .float .f64 F] (w2.setCell ⟨b7, 3, none⟩ (.string S)) := S3; obtain ⟨g0, g1, g2, g3, g4, g5, g6, g7⟩ := S3'.f7.sz)
              | (go_at_call 29; refine (refThere_any _ I A S T la ln lc Nn F _).mono ?_; rintro e w4 ⟨rfl, hb4⟩; have SX := S3'.ext hb4; obtain ⟨q0, q1, q2, q3, q4, q5, q6, q7⟩ := Sz8.sz (K := 0) (I := 0) (A := ⟨#[]⟩) (B := ⟨#[]⟩) (T := ⟨#[]⟩) (la := none) (ln := 0) (lc := 0) (N := 0) (F := 0) SX.f4; obtain ⟨z0, z1, z2, z3, z4, z5, z6, z7⟩ := Sz8.sz (K := 0) (I := 0) (A := ⟨#[]⟩) (B := ⟨#[]⟩) (T := ⟨#[]⟩) (la := none) (ln := 0) (lc := 0) (N := 0) (F := 0) SX.f2; have t0 := SX.f2.thaw 0; have t1 := SX.f2.thaw 1; have t2 := SX.f2.thaw 2; have t3 := SX.f2.thaw 3; have t4 := SX.f2.thaw 4; have t5 := SX.f2.thaw 5; have t6 := SX.f2.thaw 6; have t7 := SX.f2.thaw 7))
            obtain ⟨hz8, hk8⟩ := store8 (K := 0) (I := 0) (A := ⟨#[]⟩) (B := ⟨#[]⟩) (T := ⟨#[]⟩) (la := none) (ln := 0) (lc := 0) (N := 0) (F := 0) SX.f2
            clear q0 q1 q2 q3 q4 q5 q6 q7 z0 z1 z2 z3 z4 z5 z6 z7 t0 t1 t2 t3 t4 t5 t6 t7
            generalize World.setCell _ _ (.float .f64 0) = w8 at hz8 hk8 ⊢
            obtain ⟨p0, p1, p2, p3, p4, p5, p6, p7⟩ := hz8.sz
            refine bodyPost_ret (v := .tuple #[.agg #[.int .i64 0, .int .u64 0, .string ⟨#[]⟩, .string ⟨#[]⟩, .string ⟨#[]⟩, .slice none 0 0, .int .i64 0, .float .f64 0], .int .i64 2]) (by simp [results, Tryd.results17, go_sem, p0, p1, p2, p3, p4, p5, p6, p7]) rfl ?_
            rw [HR.out _ _ _ HF'.out, if_pos (by decide)]
            exact ⟨none, 0, 0, rfl, srd_nil _, SX.bel.trans (hk8.below SX.bel.size (fun _ e => by omega))⟩
        · have hE' : (((terr Z 1024 : Nat) : Int) != 0) = true := by simp; omega
          have HF' : Hid (rdFrom (x : Int) 6 0 sz0 Y1 = (⟨A, (tN Z 1024), T, L, Nn, F⟩, Z.drop (tlen Z), terr Z 1024)) := HF.out.trans (rdFrom_err hb hE)
          have HRE : Hid (rdSt X = (0, 0, sz0, terr Z 1024)) := by rw [HR.out _ _ _ HF'.out, if_pos hE]; rfl
          clear HF HF' hb
          generalize terr Z 1024 = EE at cP hE hE' HRE
          generalize tN Z 1024 = S at cP
          go_wp2_with (first
            | (go_at_call 40; refine cP.mono ?_; rintro e w2 ⟨a3, n3, c3, rfl, hr3, hx3⟩; have S2 := SS.ext hx3; have hsl2 := hsl.carry hx3; have y1 := S2.f7.cell 3 (by omega); have u1 := S2.f7.thaw 3; obtain ⟨S3, kS⟩ := S2.put (i := 3) (by omega) (.string S); have hr4 := hr3.keepP kS (fun h0 ad he => S2.f7.apart (by simp) hr3 h0 ad he); have hsl3 := srd_keep hsl2 kS (fun ad he => by have := hnl ad he; omega); have S3' : RrS w b7 [.int .i64 (N : Int), .int .u64 (I : Nat), .string A, .string S, .string T, .slice la ln lc, .int .i64 Nn, .float .f64 F] (w2.setCell ⟨b7, 3, none⟩ (.string S)) := S3; have SX := S3; obtain ⟨q0, q1, q2, q3, q4, q5, q6, q7⟩ := Sz8.sz (K := 0) (I := 0) (A := ⟨#[]⟩) (B := ⟨#[]⟩) (T := ⟨#[]⟩) (la := none) (ln := 0) (lc := 0) (N := 0) (F := 0) SX.f4; obtain ⟨z0, z1, z2, z3, z4, z5, z6, z7⟩ := Sz8.sz (K := 0) (I := 0) (A := ⟨#[]⟩) (B := ⟨#[]⟩) (T := ⟨#[]⟩) (la := none) (ln := 0) (lc := 0) (N := 0) (F := 0) SX.f2; have t0 := SX.f2.thaw 0; have t1 := SX.f2.thaw 1; have t2 := SX.f2.thaw 2; have t3 := SX.f2.thaw 3; have t4 := SX.f2.thaw 4; have t5 := SX.f2.thaw 5; have t6 := SX.f2.thaw 6; have t7 := SX.f2.thaw 7))
          obtain ⟨hz8, hk8⟩ := store8 (K := 0) (I := 0) (A := ⟨#[]⟩) (B := ⟨#[]⟩) (T := ⟨#[]⟩) (la := none) (ln := 0) (lc := 0) (N := 0) (F := 0) SX.f2
          clear q0 q1 q2 q3 q4 q5 q6 q7 z0 z1 z2 z3 z4 z5 z6 z7 t0 t1 t2 t3 t4 t5 t6 t7
          generalize World.setCell _ _ (.float .f64 0) = w8 at hz8 hk8 ⊢
          obtain ⟨p0, p1, p2, p3, p4, p5, p6, p7⟩ := hz8.sz
          refine bodyPost_ret (v := .tuple #[.agg #[.int .i64 0, .int .u64 0, .string ⟨#[]⟩, .string ⟨#[]⟩, .string ⟨#[]⟩, .slice none 0 0, .int .i64 0, .float .f64 0], .int .i64 (EE : Int)]) (by simp [results, Tryd.results17, go_sem, p0, p1, p2, p3, p4, p5, p6, p7]) rfl ?_
          rw [HRE.out]
          exact ⟨none, 0, 0, rfl, srd_nil _, SX.bel.trans (hk8.below SX.bel.size (fun _ e => by omega))⟩
    · obtain rfl : m = 6 - 2 := by omega
      cases hb : hbit (x : Int) 2 with
      | false =>
        have hb' : (bits .and .i64 (x : Int) 4 == 0) = true := hbit64 x hx256 2 (by omega) hb
        have HF' : Hid (rdFrom (x : Int) 6 0 sz0 Y1 = rdFrom (x : Int) 3 3 ⟨A, B, T, L, Nn, F⟩ Z) := HF.out.trans (rdFrom_no hb)
        clear HF hb
        go_wp2
        go_roundw
        case rel => exact ⟨3, 3, A, B, T, L, la, ln, lc, Nn, F, Z, a2, n2, c2, by omega, rfl, rfl, hr2, hZl, HF', SS, hsl, hnl⟩
        case measure => simp [intOf]
      | true =>
        have hb' : (bits .and .i64 (x : Int) 4 == 0) = false := hbit64 x hx256 2 (by omega) hb
        have cP := refTextD Z 1024 a2 n2 c2 wr hr2 (by omega) (by omega) (by omega)
        unfold AnsT at cP
        by_cases hE : terr Z 1024 = 0
        · have hvR : tR Z 1024 = Z.drop (tlen Z) := by unfold tR tlen; rw [if_pos hE, List.drop_drop]
          rw [hE, hvR] at cP
          skip
          have hZl' : (Z.drop (tlen Z)).length ≤ n := by rw [List.length_drop]; omega
          cases ht : (tbits A B (tN Z 1024) ln Nn F).getD 2 false with
          | true =>
            have ht' : (Sz.bits ⟨A, B, (tN Z 1024), L, Nn, F⟩).getD 2 false = true := by show (tbits _ _ _ L.length _ _).getD 2 false = true; rw [hln]; exact ht
            have HF' : Hid (rdFrom (x : Int) 6 0 sz0 Y1 = rdFrom (x : Int) 3 3 ⟨A, B, (tN Z 1024), L, Nn, F⟩ (Z.drop (tlen Z))) := HF.out.trans (rdFrom_go hb hE ht')
            have htz : (bits .and .i64 ((thr A B (tN Z 1024) ln Nn F : Nat) : Int) 4 == 0) = false := (andb64 A B (tN Z 1024) ln Nn F 2 (by omega)).trans (by rw [ht]; rfl)
            clear ht' ht hE HF hb hvR
            generalize Z.drop (tlen Z) = Z' at cP HF' hZl'
            generalize tN Z 1024 = S at cP HF' htz
            go_wp2_with (first
              | (go_at_call 40; refine cP.mono ?_; rintro e w2 ⟨a3, n3, c3, rfl, hr3, hx3⟩; have S2 := SS.ext hx3; have hsl2 := hsl.carry hx3; have y1 := S2.f7.cell 4 (by omega); have u1 := S2.f7.thaw 4; obtain ⟨S3, kS⟩ := S2.put (i := 4) (by omega) (.string S); have hr4 := hr3.keepP kS (fun h0 ad he => S2.f7.apart (by simp) hr3 h0 ad he); have hsl3 := srd_keep hsl2 kS (fun ad he => by have := hnl ad he; omega); have S3' : RrS w b7 [.int .i64 (N : Int), .int .u64 (I : Nat), .string A, .string B, .string S, .slice la ln lc, .int .i64 Nn, .float .f64 F] (w2.setCell ⟨b7, 4, none⟩ (.string S)) := S3; obtain ⟨g0, g1, g2, g3, g4, g5, g6, g7⟩ := S3'.f7.sz)
              | (go_at_call 29; refine (refThere_any _ I A B S la ln lc Nn F _).mono ?_; rintro e w4 ⟨rfl, hb4⟩))
            go_roundw
            case rel => exact ⟨3, 3, A, B, S, L, la, ln, lc, Nn, F, Z', a3, n3, c3, by omega, rfl, rfl, hr4.carry (Nat.le_refl _) hb4, hZl', HF', S3'.ext hb4, hsl3.carry hb4, hnl⟩
            case measure => simp [intOf]
          | false =>
            have ht' : (Sz.bits ⟨A, B, (tN Z 1024), L, Nn, F⟩).getD 2 false = false := by show (tbits _ _ _ L.length _ _).getD 2 false = false; rw [hln]; exact ht
            have HF' : Hid (rdFrom (x : Int) 6 0 sz0 Y1 = (⟨A, B, (tN Z 1024), L, Nn, F⟩, Z.drop (tlen Z), 2)) := HF.out.trans (rdFrom_void hb hE ht')
            have htz : (bits .and .i64 ((thr A B (tN Z 1024) ln Nn F : Nat) : Int) 4 == 0) = true := (andb64 A B (tN Z 1024) ln Nn F 2 (by omega)).trans (by rw [ht]; rfl)
            clear ht' ht hE HF hb hvR
            generalize Z.drop (tlen Z) = Z' at cP HF' hZl'
            generalize tN Z 1024 = S at cP HF' htz
            go_wp2_with (first
              | (go_at_call 40; refine cP.mono ?_; rintro e w2 ⟨a3, n3, c3, rfl, hr3, hx3⟩; have S2 := SS.ext hx3; have hsl2 := hsl.carry hx3; have y1 := S2.f7.cell 4 (by omega); have u1 := S2.f7.thaw 4; obtain ⟨S3, kS⟩ := S2.put (i := 4) (by omega) (.string S); have hr4 := hr3.keepP kS (fun h0 ad he => S2.f7.apart (by simp) hr3 h0 ad he); have hsl3 := srd_keep hsl2 kS (fun ad he => by have := hnl ad he; omega); have S3' : RrS w b7 [.int .i64 (N : Int), .int .u64 (I : Nat), .string A, .string B, .string S, .slice la ln lc, .int .i64 Nn, .float .f64 F] (w2.setCell ⟨b7, 4, none⟩ (.string S)) := S3; obtain ⟨g0, g1, g2, g3, g4, g5, g6, g7⟩ := S3'.f7.sz)
              | (go_at_call 29; refine (refThere_any _ I A B S la ln lc Nn F _).mono ?_; rintro e w4 ⟨rfl, hb4⟩; have SX := S3'.ext hb4; obtain ⟨q0, q1, q2, q3, q4, q5, q6, q7⟩ := Sz8.sz (K := 0) (I := 0) (A := ⟨#[]⟩) (B := ⟨#[]⟩) (T := ⟨#[]⟩) (la := none) (ln := 0) (lc := 0) (N := 0) (F := 0) SX.f4; obtain ⟨z0, z1, z2, z3, z4, z5, z6, z7⟩ := Sz8.sz (K := 0) (I := 0) (A := ⟨#[]⟩) (B := ⟨#[]⟩) (T := ⟨#[]⟩) (la := none) (ln := 0) (lc := 0) (N := 0) (F := 0) SX.f2; have t0 := SX.f2.thaw 0; have t1 := SX.f2.thaw 1; have t2 := SX.f2.thaw 2; have t3 := SX.f2.thaw 3; have t4 := SX.f2.thaw 4; have t5 := SX.f2.thaw 5; have t6 := SX.f2.thaw 6; have t7 := SX.f2.thaw 7))
            obtain ⟨hz8, hk8⟩ := store8 (K := 0) (I := 0) (A := ⟨#[]⟩) (B := ⟨#[]⟩) (T := ⟨#[]⟩) (la := none) (ln := 0) (lc := 0) (N := 0) (F := 0) SX.f2
            clear q0 q1 q2 q3 q4 q5 q6 q7 z0 z1 z2 z3 z4 z5 z6 z7 t0 t1 t2 t3 t4 t5 t6 t7
            generalize World.setCell _ _ (.float .f64 0) = w8 at hz8 hk8 ⊢
            obtain ⟨p0, p1, p2, p3, p4, p5, p6, p7⟩ := hz8.sz
            refine bodyPost_ret (v := .tuple #[.agg #[.int .i64 0, .int .u64 0, .string ⟨#[]⟩, .string ⟨#[]⟩, .string ⟨#[]⟩, .slice none 0 0, .int .i64 0, .float .f64 0], .int .i64 2]) (by simp [results, Tryd.results17, go_sem, p0, p1, p2, p3, p4, p5, p6, p7]) rfl ?_
            rw [HR.out _ _ _ HF'.out, if_pos (by decide)]
            exact ⟨none, 0, 0, rfl, srd_nil _, SX.bel.trans (hk8.below SX.bel.size (fun _ e => by omega))⟩
        · have hE' : (((terr Z 1024 : Nat) : Int) != 0) = true := by simp; omega
          have HF' : Hid (rdFrom (x : Int) 6 0 sz0 Y1 = (⟨A, B, (tN Z 1024), L, Nn, F⟩, Z.drop (tlen Z), terr Z 1024)) := HF.out.trans (rdFrom_err hb hE)
          have HRE : Hid (rdSt X = (0, 0, sz0, terr Z 1024)) := by rw [HR.out _ _ _ HF'.out, if_pos hE]; rfl
          clear HF HF' hb
          generalize terr Z 1024 = EE at cP hE hE' HRE
          generalize tN Z 1024 = S at cP
          go_wp2_with (first
            | (go_at_call 40; refine cP.mono ?_; rintro e w2 ⟨a3, n3, c3, rfl, hr3, hx3⟩; have S2 := SS.ext hx3; have hsl2 := hsl.carry hx3; have y1 := S2.f7.cell 4 (by omega); have u1 := S2.f7.thaw 4; obtain ⟨S3, kS⟩ := S2.put (i := 4) (by omega) (.string S); have hr4 := hr3.keepP kS (fun h0 ad he => S2.f7.apart (by simp) hr3 h0 ad he); have hsl3 := srd_keep hsl2 kS (fun ad he => by have := hnl ad he; omega); have S3' : RrS w b7 [.int .i64 (N : Int), .int .u64 (I : Nat), .string A, .string B, .string S, .slice la ln lc, .int .i64 Nn, .float .f64 F] (w2.setCell ⟨b7, 4, none⟩ (.string S)) := S3; have SX := S3; obtain ⟨q0, q1, q2, q3, q4, q5, q6, q7⟩ := Sz8.sz (K := 0) (I := 0) (A := ⟨#[]⟩) (B := ⟨#[]⟩) (T := ⟨#[]⟩) (la := none) (ln := 0) (lc := 0) (N := 0) (F := 0) SX.f4; obtain ⟨z0, z1, z2, z3, z4, z5, z6, z7⟩ := Sz8.sz (K := 0) (I := 0) (A := ⟨#[]⟩) (B := ⟨#[]⟩) (T := ⟨#[]⟩) (la := none) (ln := 0) (lc := 0) (N := 0) (F := 0) SX.f2; have t0 := SX.f2.thaw 0; have t1 := SX.f2.thaw 1; have t2 := SX.f2.thaw 2; have t3 := SX.f2.thaw 3; have t4 := SX.f2.thaw 4; have t5 := SX.f2.thaw 5; have t6 := SX.f2.thaw 6; have t7 := SX.f2.thaw 7))
          obtain ⟨hz8, hk8⟩ := store8 (K := 0) (I := 0) (A := ⟨#[]⟩) (B := ⟨#[]⟩) (T := ⟨#[]⟩) (la := none) (ln := 0) (lc := 0) (N := 0) (F := 0) SX.f2
          clear q0 q1 q2 q3 q4 q5 q6 q7 z0 z1 z2 z3 z4 z5 z6 z7 t0 t1 t2 t3 t4 t5 t6 t7
          generalize World.setCell _ _ (.float .f64 0) = w8 at hz8 hk8 ⊢
          obtain ⟨p0, p1, p2, p3, p4, p5, p6, p7⟩ := hz8.sz
          refine bodyPost_ret (v := .tuple #[.agg #[.int .i64 0, .int .u64 0, .string ⟨#[]⟩, .string ⟨#[]⟩, .string ⟨#[]⟩, .slice none 0 0, .int .i64 0, .float .f64 0], .int .i64 (EE : Int)]) (by simp [results, Tryd.results17, go_sem, p0, p1, p2, p3, p4, p5, p6, p7]) rfl ?_
          rw [HRE.out]
          exact ⟨none, 0, 0, rfl, srd_nil _, SX.bel.trans (hk8.below SX.bel.size (fun _ e => by omega))⟩
    · obtain rfl : m = 6 - 3 := by omega
      cases hb : hbit (x : Int) 3 with
      | false =>
        have hb' : (bits .and .i64 (x : Int) 8 == 0) = true := hbit64 x hx256 3 (by omega) hb
        have HF' : Hid (rdFrom (x : Int) 6 0 sz0 Y1 = rdFrom (x : Int) 2 4 ⟨A, B, T, L, Nn, F⟩ Z) := HF.out.trans (rdFrom_no hb)
        clear HF hb
        go_wp2
        go_roundw
        case rel => exact ⟨4, 2, A, B, T, L, la, ln, lc, Nn, F, Z, a2, n2, c2, by omega, rfl, rfl, hr2, hZl, HF', SS, hsl, hnl⟩
        case measure => simp [intOf]
      | true =>
        have hb' : (bits .and .i64 (x : Int) 8 == 0) = false := hbit64 x hx256 3 (by omega) hb
        have cP := refList_any a2 n2 c2 Z wr hr2 (by omega)
        by_cases hrl : rl Z = 0
        · have cP' := cP.mono (fun e w' g => (g.resolve_left (fun g => g.1 hrl)).2 : ∀ e w', _ → ∃ la3 ln3 lc3 a' n' c', e = .returned (.tuple #[.slice la3 ln3 lc3, .slice a' n' c', .int .i64 0]) ∧ SRd w' la3 ln3 lc3 (rdList Z).1 ∧ Rd w' a' n' c' (rdList Z).2.1 ∧ Below wr.heap.size wr w' ∧ ∀ ad, la3 = some ad → wr.heap.size ≤ ad.block)
          have hE : (rdList Z).2.2 = 0 := by
            unfold rl at hrl; split at hrl
            · rename_i g; exact absurd hrl g
            · rename_i g; omega
          have hl0 : 0 < (rdList Z).1.length := by
            unfold rl at hrl; rw [if_neg (by omega)] at hrl
            split at hrl
            · cases hrl
            · omega
          have ht : (Sz.bits ⟨A, B, T, (rdList Z).1, Nn, F⟩).getD 3 false = true := decide_eq_true hl0
          have HF' : Hid (rdFrom (x : Int) 6 0 sz0 Y1 = rdFrom (x : Int) 2 4 ⟨A, B, T, (rdList Z).1, Nn, F⟩ (rdList Z).2.1) := HF.out.trans (rdFrom_go hb hE ht)
          have hZl' : (rdList Z).2.1.length ≤ n := Nat.le_trans (rdList_rest Z hE) hZl
          have htz : (bits .and .i64 ((thr A B T (rdList Z).1.length Nn F : Nat) : Int) 8 == 0) = false := (andb64 A B T (rdList Z).1.length Nn F 3 (by omega)).trans (by rw [show (tbits A B T (rdList Z).1.length Nn F).getD 3 false = true from ht]; rfl)
          clear ht hE HF hb cP hrl hl0
          generalize (rdList Z).2.1 = Z' at cP' HF' hZl'
          generalize (rdList Z).1 = S at cP' HF' htz
          have hb7l := SS.f7.lt
          go_wp2_with (first
            | (go_at_call 41; refine cP'.mono ?_; rintro e w2 ⟨la3, ln3, lc3, a3, n3, c3, rfl, hsl2, hr3, hx3, hnew⟩; have hlm := hsl2.len; subst hlm; have S2 := SS.ext hx3; have y1 := S2.f7.cell 5 (by omega); have u1 := S2.f7.thaw 5; obtain ⟨S3, kS⟩ := S2.put (i := 5) (by omega) (.slice la3 S.length lc3); have hr4 := hr3.keepP kS (fun h0 ad he => S2.f7.apart (by simp) hr3 h0 ad he); have hsl3 := srd_keep hsl2 kS (fun ad he => by have := hnew ad he; omega); have S3' : RrS w b7 [.int .i64 (N : Int), .int .u64 (I : Nat), .string A, .string B, .string T, .slice la3 S.length lc3, .int .i64 Nn, .float .f64 F] (w2.setCell ⟨b7, 5, none⟩ (.slice la3 S.length lc3)) := S3; obtain ⟨g0, g1, g2, g3, g4, g5, g6, g7⟩ := S3'.f7.sz)
            | (go_at_call 29; refine (refThere_any _ I A B T la3 S.length lc3 Nn F _).mono ?_; rintro e w4 ⟨rfl, hb4⟩))
          go_roundw
          case rel => exact ⟨4, 2, A, B, T, S, la3, _, lc3, Nn, F, Z', a3, n3, c3, by omega, rfl, rfl, hr4.carry (Nat.le_refl _) hb4, hZl', HF', S3'.ext hb4, hsl3.carry hb4, fun ad he => by have := hnew ad he; omega⟩
          case measure => simp [intOf]
        · have cP' := cP.mono (fun e w' g => (g.resolve_right (fun g => hrl g.1)).2 : ∀ e w', _ → e = .returned (.tuple #[.slice none 0 0, .slice none 0 0, .int .i64 (rl Z : Nat)]) ∧ Below wr.heap.size wr w')
          have HRE : Hid (rdSt X = (0, 0, sz0, rl Z)) := by
            by_cases hE : (rdList Z).2.2 = 0
            · have hl0 : (rdList Z).1.length = 0 := by
                unfold rl at hrl; rw [if_neg (by omega)] at hrl
                split at hrl
                · assumption
                · exact absurd rfl hrl
              have e2 : rl Z = 2 := by unfold rl; rw [if_neg (by omega), if_pos hl0]
              have ht : (Sz.bits ⟨A, B, T, (rdList Z).1, Nn, F⟩).getD 3 false = false := decide_eq_false (show ¬ 0 < (rdList Z).1.length by omega)
              rw [e2, HR.out _ _ _ (HF.out.trans (rdFrom_void hb hE ht)), if_pos (by decide)]; rfl
            · have e2 : rl Z = (rdList Z).2.2 := by unfold rl; rw [if_pos hE]
              rw [e2, HR.out _ _ _ (show rdFrom (x : Int) 6 0 sz0 Y1 = (⟨A, B, T, (rdList Z).1, Nn, F⟩, (rdList Z).2.1, (rdList Z).2.2) from HF.out.trans (rdFrom_err hb hE)), if_pos hE]; rfl
          have hE' : (((rl Z : Nat) : Int) != 0) = true := by simp; omega
          clear HF hb cP
          generalize rl Z = EE at cP' hE' HRE
          go_wp2_with (first
            | (go_at_call 41; refine cP'.mono ?_; rintro e w2 ⟨rfl, hx3⟩; have S2 := SS.ext hx3; have y1 := S2.f7.cell 5 (by omega); have u1 := S2.f7.thaw 5; obtain ⟨S3, kS⟩ := S2.put (i := 5) (by omega) (.slice none 0 0); have SX := S3; obtain ⟨q0, q1, q2, q3, q4, q5, q6, q7⟩ := Sz8.sz (K := 0) (I := 0) (A := ⟨#[]⟩) (B := ⟨#[]⟩) (T := ⟨#[]⟩) (la := none) (ln := 0) (lc := 0) (N := 0) (F := 0) SX.f4; obtain ⟨z0, z1, z2, z3, z4, z5, z6, z7⟩ := Sz8.sz (K := 0) (I := 0) (A := ⟨#[]⟩) (B := ⟨#[]⟩) (T := ⟨#[]⟩) (la := none) (ln := 0) (lc := 0) (N := 0) (F := 0) SX.f2; have t0 := SX.f2.thaw 0; have t1 := SX.f2.thaw 1; have t2 := SX.f2.thaw 2; have t3 := SX.f2.thaw 3; have t4 := SX.f2.thaw 4; have t5 := SX.f2.thaw 5; have t6 := SX.f2.thaw 6; have t7 := SX.f2.thaw 7))
          obtain ⟨hz8, hk8⟩ := store8 (K := 0) (I := 0) (A := ⟨#[]⟩) (B := ⟨#[]⟩) (T := ⟨#[]⟩) (la := none) (ln := 0) (lc := 0) (N := 0) (F := 0) SX.f2
          clear q0 q1 q2 q3 q4 q5 q6 q7 z0 z1 z2 z3 z4 z5 z6 z7 t0 t1 t2 t3 t4 t5 t6 t7
          generalize World.setCell _ _ (.float .f64 0) = w8 at hz8 hk8 ⊢
          obtain ⟨p0, p1, p2, p3, p4, p5, p6, p7⟩ := hz8.sz
          refine bodyPost_ret (v := .tuple #[.agg #[.int .i64 0, .int .u64 0, .string ⟨#[]⟩, .string ⟨#[]⟩, .string ⟨#[]⟩, .slice none 0 0, .int .i64 0, .float .f64 0], .int .i64 (EE : Int)]) (by simp [results, Tryd.results17, go_sem, p0, p1, p2, p3, p4, p5, p6, p7]) rfl ?_
          rw [HRE.out]
          exact ⟨none, 0, 0, rfl, srd_nil _, SX.bel.trans (hk8.below SX.bel.size (fun _ e => by omega))⟩
    · obtain rfl : m = 6 - 4 := by omega
      cases hb : hbit (x : Int) 4 with
      | false =>
        have hb' : (bits .and .i64 (x : Int) 16 == 0) = true := hbit64 x hx256 4 (by omega) hb
        have HF' : Hid (rdFrom (x : Int) 6 0 sz0 Y1 = rdFrom (x : Int) 1 5 ⟨A, B, T, L, Nn, F⟩ Z) := HF.out.trans (rdFrom_no hb)
        clear HF hb
        go_wp2
        go_roundw
        case rel => exact ⟨5, 1, A, B, T, L, la, ln, lc, Nn, F, Z, a2, n2, c2, by omega, rfl, rfl, hr2, hZl, HF', SS, hsl, hnl⟩
        case measure => simp [intOf]
      | true =>
        have hb' : (bits .and .i64 (x : Int) 16 == 0) = false := hbit64 x hx256 4 (by omega) hb
        have cP := refIntD Z a2 n2 c2 wr hr2 (by omega)
        unfold AnsI at cP
        by_cases hE : (scan Z 0 0).2.2 = 0
        · have hvR : uR Z = Z.drop (scan Z 0 0).2.1 := by unfold uR; rw [if_pos hE]
          rw [hE, hvR] at cP
          rw [show iN Z = unfv (scan Z 0 0).1 by unfold iN; rw [if_pos hE]] at cP
          have hZl' : (Z.drop (scan Z 0 0).2.1).length ≤ n := by rw [List.length_drop]; omega
          cases ht : (tbits A B T ln (unfv (scan Z 0 0).1) F).getD 4 false with
          | true =>
            have ht' : (Sz.bits ⟨A, B, T, L, (unfv (scan Z 0 0).1), F⟩).getD 4 false = true := by show (tbits _ _ _ L.length _ _).getD 4 false = true; rw [hln]; exact ht
            have HF' : Hid (rdFrom (x : Int) 6 0 sz0 Y1 = rdFrom (x : Int) 1 5 ⟨A, B, T, L, (unfv (scan Z 0 0).1), F⟩ (Z.drop (scan Z 0 0).2.1)) := HF.out.trans (rdFrom_go hb hE ht')
            have htz : (bits .and .i64 ((thr A B T ln (unfv (scan Z 0 0).1) F : Nat) : Int) 16 == 0) = false := (andb64 A B T ln (unfv (scan Z 0 0).1) F 4 (by omega)).trans (by rw [ht]; rfl)
            clear ht' ht hE HF hb hvR
            generalize Z.drop (scan Z 0 0).2.1 = Z' at cP HF' hZl'
            generalize unfv (scan Z 0 0).1 = S at cP HF' htz
            go_wp2_with (first
              | (go_at_call 42; refine cP.mono ?_; rintro e w2 ⟨a3, n3, c3, rfl, hr3, hx3⟩; have S2 := SS.ext hx3; have hsl2 := hsl.carry hx3; have y1 := S2.f7.cell 6 (by omega); have u1 := S2.f7.thaw 6; obtain ⟨S3, kS⟩ := S2.put (i := 6) (by omega) (.int .i64 S); have hr4 := hr3.keepP kS (fun h0 ad he => S2.f7.apart (by simp) hr3 h0 ad he); have hsl3 := srd_keep hsl2 kS (fun ad he => by have := hnl ad he; omega); have S3' : RrS w b7 [.int .i64 (N : Int), .int .u64 (I : Nat), .string A, .string B, .string T, .slice la ln lc, .int .i64 S, .float .f64 F] (w2.setCell ⟨b7, 6, none⟩ (.int .i64 S)) := S3; obtain ⟨g0, g1, g2, g3, g4, g5, g6, g7⟩ := S3'.f7.sz)
              | (go_at_call 29; refine (refThere_any _ I A B T la ln lc S F _).mono ?_; rintro e w4 ⟨rfl, hb4⟩))
            go_roundw
            case rel => exact ⟨5, 1, A, B, T, L, la, ln, lc, S, F, Z', a3, n3, c3, by omega, rfl, rfl, hr4.carry (Nat.le_refl _) hb4, hZl', HF', S3'.ext hb4, hsl3.carry hb4, hnl⟩
            case measure => simp [intOf]
          | false =>
            have ht' : (Sz.bits ⟨A, B, T, L, (unfv (scan Z 0 0).1), F⟩).getD 4 false = false := by show (tbits _ _ _ L.length _ _).getD 4 false = false; rw [hln]; exact ht
            have HF' : Hid (rdFrom (x : Int) 6 0 sz0 Y1 = (⟨A, B, T, L, (unfv (scan Z 0 0).1), F⟩, Z.drop (scan Z 0 0).2.1, 2)) := HF.out.trans (rdFrom_void hb hE ht')
            have htz : (bits .and .i64 ((thr A B T ln (unfv (scan Z 0 0).1) F : Nat) : Int) 16 == 0) = true := (andb64 A B T ln (unfv (scan Z 0 0).1) F 4 (by omega)).trans (by rw [ht]; rfl)
            clear ht' ht hE HF hb hvR
            generalize Z.drop (scan Z 0 0).2.1 = Z' at cP HF' hZl'
            generalize unfv (scan Z 0 0).1 = S at cP HF' htz
            go_wp2_with (first
              | (go_at_call 42; refine cP.mono ?_; rintro e w2 ⟨a3, n3, c3, rfl, hr3, hx3⟩; have S2 := SS.ext hx3; have hsl2 := hsl.carry hx3; have y1 := S2.f7.cell 6 (by omega); have u1 := S2.f7.thaw 6; obtain ⟨S3, kS⟩ := S2.put (i := 6) (by omega) (.int .i64 S); have hr4 := hr3.keepP kS (fun h0 ad he => S2.f7.apart (by simp) hr3 h0 ad he); have hsl3 := srd_keep hsl2 kS (fun ad he => by have := hnl ad he; omega); have S3' : RrS w b7 [.int .i64 (N : Int), .int .u64 (I : Nat), .string A, .string B, .string T, .slice la ln lc, .int .i64 S, .float .f64 F] (w2.setCell ⟨b7, 6, none⟩ (.int .i64 S)) := S3; obtain ⟨g0, g1, g2, g3, g4, g5, g6, g7⟩ := S3'.f7.sz)
              | (go_at_call 29; refine (refThere_any _ I A B T la ln lc S F _).mono ?_; rintro e w4 ⟨rfl, hb4⟩; have SX := S3'.ext hb4; obtain ⟨q0, q1, q2, q3, q4, q5, q6, q7⟩ := Sz8.sz (K := 0) (I := 0) (A := ⟨#[]⟩) (B := ⟨#[]⟩) (T := ⟨#[]⟩) (la := none) (ln := 0) (lc := 0) (N := 0) (F := 0) SX.f4; obtain ⟨z0, z1, z2, z3, z4, z5, z6, z7⟩ := Sz8.sz (K := 0) (I := 0) (A := ⟨#[]⟩) (B := ⟨#[]⟩) (T := ⟨#[]⟩) (la := none) (ln := 0) (lc := 0) (N := 0) (F := 0) SX.f2; have t0 := SX.f2.thaw 0; have t1 := SX.f2.thaw 1; have t2 := SX.f2.thaw 2; have t3 := SX.f2.thaw 3; have t4 := SX.f2.thaw 4; have t5 := SX.f2.thaw 5; have t6 := SX.f2.thaw 6; have t7 := SX.f2.thaw 7))
            obtain ⟨hz8, hk8⟩ := store8 (K := 0) (I := 0) (A := ⟨#[]⟩) (B := ⟨#[]⟩) (T := ⟨#[]⟩) (la := none) (ln := 0) (lc := 0) (N := 0) (F := 0) SX.f2
            clear q0 q1 q2 q3 q4 q5 q6 q7 z0 z1 z2 z3 z4 z5 z6 z7 t0 t1 t2 t3 t4 t5 t6 t7
            generalize World.setCell _ _ (.float .f64 0) = w8 at hz8 hk8 ⊢
            obtain ⟨p0, p1, p2, p3, p4, p5, p6, p7⟩ := hz8.sz
            refine bodyPost_ret (v := .tuple #[.agg #[.int .i64 0, .int .u64 0, .string ⟨#[]⟩, .string ⟨#[]⟩, .string ⟨#[]⟩, .slice none 0 0, .int .i64 0, .float .f64 0], .int .i64 2]) (by simp [results, Tryd.results17, go_sem, p0, p1, p2, p3, p4, p5, p6, p7]) rfl ?_
            rw [HR.out _ _ _ HF'.out, if_pos (by decide)]
            exact ⟨none, 0, 0, rfl, srd_nil _, SX.bel.trans (hk8.below SX.bel.size (fun _ e => by omega))⟩
        · have hE' : ((((scan Z 0 0).2.2 : Nat) : Int) != 0) = true := by simp; omega
          have HF' : Hid (rdFrom (x : Int) 6 0 sz0 Y1 = (⟨A, B, T, L, (unfv (scan Z 0 0).1), F⟩, Z.drop (scan Z 0 0).2.1, (scan Z 0 0).2.2)) := HF.out.trans (rdFrom_err hb hE)
          have HRE : Hid (rdSt X = (0, 0, sz0, (scan Z 0 0).2.2)) := by rw [HR.out _ _ _ HF'.out, if_pos hE]; rfl
          clear HF HF' hb
          generalize (scan Z 0 0).2.2 = EE at cP hE hE' HRE
          generalize iN Z = S at cP
          go_wp2_with (first
            | (go_at_call 42; refine cP.mono ?_; rintro e w2 ⟨a3, n3, c3, rfl, hr3, hx3⟩; have S2 := SS.ext hx3; have hsl2 := hsl.carry hx3; have y1 := S2.f7.cell 6 (by omega); have u1 := S2.f7.thaw 6; obtain ⟨S3, kS⟩ := S2.put (i := 6) (by omega) (.int .i64 S); have hr4 := hr3.keepP kS (fun h0 ad he => S2.f7.apart (by simp) hr3 h0 ad he); have hsl3 := srd_keep hsl2 kS (fun ad he => by have := hnl ad he; omega); have S3' : RrS w b7 [.int .i64 (N : Int), .int .u64 (I : Nat), .string A, .string B, .string T, .slice la ln lc, .int .i64 S, .float .f64 F] (w2.setCell ⟨b7, 6, none⟩ (.int .i64 S)) := S3; have SX := S3; obtain ⟨q0, q1, q2, q3, q4, q5, q6, q7⟩ := Sz8.sz (K := 0) (I := 0) (A := ⟨#[]⟩) (B := ⟨#[]⟩) (T := ⟨#[]⟩) (la := none) (ln := 0) (lc := 0) (N := 0) (F := 0) SX.f4; obtain ⟨z0, z1, z2, z3, z4, z5, z6, z7⟩ := Sz8.sz (K := 0) (I := 0) (A := ⟨#[]⟩) (B := ⟨#[]⟩) (T := ⟨#[]⟩) (la := none) (ln := 0) (lc := 0) (N := 0) (F := 0) SX.f2; have t0 := SX.f2.thaw 0; have t1 := SX.f2.thaw 1; have t2 := SX.f2.thaw 2; have t3 := SX.f2.thaw 3; have t4 := SX.f2.thaw 4; have t5 := SX.f2.thaw 5; have t6 := SX.f2.thaw 6; have t7 := SX.f2.thaw 7))
          obtain ⟨hz8, hk8⟩ := store8 (K := 0) (I := 0) (A := ⟨#[]⟩) (B := ⟨#[]⟩) (T := ⟨#[]⟩) (la := none) (ln := 0) (lc := 0) (N := 0) (F := 0) SX.f2
          clear q0 q1 q2 q3 q4 q5 q6 q7 z0 z1 z2 z3 z4 z5 z6 z7 t0 t1 t2 t3 t4 t5 t6 t7
          generalize World.setCell _ _ (.float .f64 0) = w8 at hz8 hk8 ⊢
          obtain ⟨p0, p1, p2, p3, p4, p5, p6, p7⟩ := hz8.sz
          refine bodyPost_ret (v := .tuple #[.agg #[.int .i64 0, .int .u64 0, .string ⟨#[]⟩, .string ⟨#[]⟩, .string ⟨#[]⟩, .slice none 0 0, .int .i64 0, .float .f64 0], .int .i64 (EE : Int)]) (by simp [results, Tryd.results17, go_sem, p0, p1, p2, p3, p4, p5, p6, p7]) rfl ?_
          rw [HRE.out]
          exact ⟨none, 0, 0, rfl, srd_nil _, SX.bel.trans (hk8.below SX.bel.size (fun _ e => by omega))⟩
    · obtain rfl : m = 6 - 5 := by omega
      cases hb : hbit (x : Int) 5 with
      | false =>
        have hb' : (bits .and .i64 (x : Int) 32 == 0) = true := hbit64 x hx256 5 (by omega) hb
        have HF' : Hid (rdFrom (x : Int) 6 0 sz0 Y1 = rdFrom (x : Int) 0 6 ⟨A, B, T, L, Nn, F⟩ Z) := HF.out.trans (rdFrom_no hb)
        clear HF hb
        go_wp2
        go_roundw
        case rel => exact ⟨6, 0, A, B, T, L, la, ln, lc, Nn, F, Z, a2, n2, c2, by omega, rfl, rfl, hr2, hZl, HF', SS, hsl, hnl⟩
        case measure => simp [intOf]
      | true =>
        have hb' : (bits .and .i64 (x : Int) 32 == 0) = false := hbit64 x hx256 5 (by omega) hb
        have cP := refFloatD Z a2 n2 c2 wr hr2 (by omega)
        unfold AnsF at cP
        by_cases hE : fE Z = 0
        · have hvR : fR Z = Z.drop 8 := by unfold fR; unfold fE at hE; split at hE; cases hE; rename_i g; rw [if_neg g]
          rw [hE, hvR] at cP
          skip
          have hZl' : (Z.drop 8).length ≤ n := by rw [List.length_drop]; omega
          cases ht : (tbits A B T ln Nn (fN Z)).getD 5 false with
          | true =>
            have ht' : (Sz.bits ⟨A, B, T, L, Nn, (fN Z)⟩).getD 5 false = true := by show (tbits _ _ _ L.length _ _).getD 5 false = true; rw [hln]; exact ht
            have HF' : Hid (rdFrom (x : Int) 6 0 sz0 Y1 = rdFrom (x : Int) 0 6 ⟨A, B, T, L, Nn, (fN Z)⟩ (Z.drop 8)) := HF.out.trans (rdFrom_go hb hE ht')
            have htz : (bits .and .i64 ((thr A B T ln Nn (fN Z) : Nat) : Int) 32 == 0) = false := (andb64 A B T ln Nn (fN Z) 5 (by omega)).trans (by rw [ht]; rfl)
            clear ht' ht hE HF hb hvR
            generalize Z.drop 8 = Z' at cP HF' hZl'
            generalize fN Z = S at cP HF' htz
            go_wp2_with (first
              | (go_at_call 43; refine cP.mono ?_; rintro e w2 ⟨a3, n3, c3, rfl, hr3, hx3⟩; have S2 := SS.ext hx3; have hsl2 := hsl.carry hx3; have y1 := S2.f7.cell 7 (by omega); have u1 := S2.f7.thaw 7; obtain ⟨S3, kS⟩ := S2.put (i := 7) (by omega) (.float .f64 S); have hr4 := hr3.keepP kS (fun h0 ad he => S2.f7.apart (by simp) hr3 h0 ad he); have hsl3 := srd_keep hsl2 kS (fun ad he => by have := hnl ad he; omega); have S3' : RrS w b7 [.int .i64 (N : Int), .int .u64 (I : Nat), .string A, .string B, .string T, .slice la ln lc, .int .i64 Nn, .float .f64 S] (w2.setCell ⟨b7, 7, none⟩ (.float .f64 S)) := S3; obtain ⟨g0, g1, g2, g3, g4, g5, g6, g7⟩ := S3'.f7.sz)
              | (go_at_call 29; refine (refThere_any _ I A B T la ln lc Nn S _).mono ?_; rintro e w4 ⟨rfl, hb4⟩))
            go_roundw
            case rel => exact ⟨6, 0, A, B, T, L, la, ln, lc, Nn, S, Z', a3, n3, c3, by omega, rfl, rfl, hr4.carry (Nat.le_refl _) hb4, hZl', HF', S3'.ext hb4, hsl3.carry hb4, hnl⟩
            case measure => simp [intOf]
          | false =>
            have ht' : (Sz.bits ⟨A, B, T, L, Nn, (fN Z)⟩).getD 5 false = false := by show (tbits _ _ _ L.length _ _).getD 5 false = false; rw [hln]; exact ht
            have HF' : Hid (rdFrom (x : Int) 6 0 sz0 Y1 = (⟨A, B, T, L, Nn, (fN Z)⟩, Z.drop 8, 2)) := HF.out.trans (rdFrom_void hb hE ht')
            have htz : (bits .and .i64 ((thr A B T ln Nn (fN Z) : Nat) : Int) 32 == 0) = true := (andb64 A B T ln Nn (fN Z) 5 (by omega)).trans (by rw [ht]; rfl)
            clear ht' ht hE HF hb hvR
            generalize Z.drop 8 = Z' at cP HF' hZl'
            generalize fN Z = S at cP HF' htz
            go_wp2_with (first
              | (go_at_call 43; refine cP.mono ?_; rintro e w2 ⟨a3, n3, c3, rfl, hr3, hx3⟩; have S2 := SS.ext hx3; have hsl2 := hsl.carry hx3; have y1 := S2.f7.cell 7 (by omega); have u1 := S2.f7.thaw 7; obtain ⟨S3, kS⟩ := S2.put (i := 7) (by omega) (.float .f64 S); have hr4 := hr3.keepP kS (fun h0 ad he => S2.f7.apart (by simp) hr3 h0 ad he); have hsl3 := srd_keep hsl2 kS (fun ad he => by have := hnl ad he; omega); have S3' : RrS w b7 [.int .i64 (N : Int), .int .u64 (I : Nat), .string A, .string B, .string T, .slice la ln lc, .int .i64 Nn, .float .f64 S] (w2.setCell ⟨b7, 7, none⟩ (.float .f64 S)) := S3; obtain ⟨g0, g1, g2, g3, g4, g5, g6, g7⟩ := S3'.f7.sz)
              | (go_at_call 29; refine (refThere_any _ I A B T la ln lc Nn S _).mono ?_; rintro e w4 ⟨rfl, hb4⟩; have SX := S3'.ext hb4; obtain ⟨q0, q1, q2, q3, q4, q5, q6, q7⟩ := Sz8.sz (K := 0) (I := 0) (A := ⟨#[]⟩) (B := ⟨#[]⟩) (T := ⟨#[]⟩) (la := none) (ln := 0) (lc := 0) (N := 0) (F := 0) SX.f4; obtain ⟨z0, z1, z2, z3, z4, z5, z6, z7⟩ := Sz8.sz (K := 0) (I := 0) (A := ⟨#[]⟩) (B := ⟨#[]⟩) (T := ⟨#[]⟩) (la := none) (ln := 0) (lc := 0) (N := 0) (F := 0) SX.f2; have t0 := SX.f2.thaw 0; have t1 := SX.f2.thaw 1; have t2 := SX.f2.thaw 2; have t3 := SX.f2.thaw 3; have t4 := SX.f2.thaw 4; have t5 := SX.f2.thaw 5; have t6 := SX.f2.thaw 6; have t7 := SX.f2.thaw 7))
            obtain ⟨hz8, hk8⟩ := store8 (K := 0) (I := 0) (A := ⟨#[]⟩) (B := ⟨#[]⟩) (T := ⟨#[]⟩) (la := none) (ln := 0) (lc := 0) (N := 0) (F := 0) SX.f2
            clear q0 q1 q2 q3 q4 q5 q6 q7 z0 z1 z2 z3 z4 z5 z6 z7 t0 t1 t2 t3 t4 t5 t6 t7
            generalize World.setCell _ _ (.float .f64 0) = w8 at hz8 hk8 ⊢
            obtain ⟨p0, p1, p2, p3, p4, p5, p6, p7⟩ := hz8.sz
            refine bodyPost_ret (v := .tuple #[.agg #[.int .i64 0, .int .u64 0, .string ⟨#[]⟩, .string ⟨#[]⟩, .string ⟨#[]⟩, .slice none 0 0, .int .i64 0, .float .f64 0], .int .i64 2]) (by simp [results, Tryd.results17, go_sem, p0, p1, p2, p3, p4, p5, p6, p7]) rfl ?_
            rw [HR.out _ _ _ HF'.out, if_pos (by decide)]
            exact ⟨none, 0, 0, rfl, srd_nil _, SX.bel.trans (hk8.below SX.bel.size (fun _ e => by omega))⟩
        · have hE' : (((fE Z : Nat) : Int) != 0) = true := by simp; omega
          have HF' : Hid (rdFrom (x : Int) 6 0 sz0 Y1 = (⟨A, B, T, L, Nn, (fN Z)⟩, Z.drop 8, fE Z)) := HF.out.trans (rdFrom_err hb hE)
          have HRE : Hid (rdSt X = (0, 0, sz0, fE Z)) := by rw [HR.out _ _ _ HF'.out, if_pos hE]; rfl
          clear HF HF' hb
          generalize fE Z = EE at cP hE hE' HRE
          generalize fN Z = S at cP
          go_wp2_with (first
            | (go_at_call 43; refine cP.mono ?_; rintro e w2 ⟨a3, n3, c3, rfl, hr3, hx3⟩; have S2 := SS.ext hx3; have hsl2 := hsl.carry hx3; have y1 := S2.f7.cell 7 (by omega); have u1 := S2.f7.thaw 7; obtain ⟨S3, kS⟩ := S2.put (i := 7) (by omega) (.float .f64 S); have hr4 := hr3.keepP kS (fun h0 ad he => S2.f7.apart (by simp) hr3 h0 ad he); have hsl3 := srd_keep hsl2 kS (fun ad he => by have := hnl ad he; omega); have S3' : RrS w b7 [.int .i64 (N : Int), .int .u64 (I : Nat), .string A, .string B, .string T, .slice la ln lc, .int .i64 Nn, .float .f64 S] (w2.setCell ⟨b7, 7, none⟩ (.float .f64 S)) := S3; have SX := S3; obtain ⟨q0, q1, q2, q3, q4, q5, q6, q7⟩ := Sz8.sz (K := 0) (I := 0) (A := ⟨#[]⟩) (B := ⟨#[]⟩) (T := ⟨#[]⟩) (la := none) (ln := 0) (lc := 0) (N := 0) (F := 0) SX.f4; obtain ⟨z0, z1, z2, z3, z4, z5, z6, z7⟩ := Sz8.sz (K := 0) (I := 0) (A := ⟨#[]⟩) (B := ⟨#[]⟩) (T := ⟨#[]⟩) (la := none) (ln := 0) (lc := 0) (N := 0) (F := 0) SX.f2; have t0 := SX.f2.thaw 0; have t1 := SX.f2.thaw 1; have t2 := SX.f2.thaw 2; have t3 := SX.f2.thaw 3; have t4 := SX.f2.thaw 4; have t5 := SX.f2.thaw 5; have t6 := SX.f2.thaw 6; have t7 := SX.f2.thaw 7))
          obtain ⟨hz8, hk8⟩ := store8 (K := 0) (I := 0) (A := ⟨#[]⟩) (B := ⟨#[]⟩) (T := ⟨#[]⟩) (la := none) (ln := 0) (lc := 0) (N := 0) (F := 0) SX.f2
          clear q0 q1 q2 q3 q4 q5 q6 q7 z0 z1 z2 z3 z4 z5 z6 z7 t0 t1 t2 t3 t4 t5 t6 t7
          generalize World.setCell _ _ (.float .f64 0) = w8 at hz8 hk8 ⊢
          obtain ⟨p0, p1, p2, p3, p4, p5, p6, p7⟩ := hz8.sz
          refine bodyPost_ret (v := .tuple #[.agg #[.int .i64 0, .int .u64 0, .string ⟨#[]⟩, .string ⟨#[]⟩, .string ⟨#[]⟩, .slice none 0 0, .int .i64 0, .float .f64 0], .int .i64 (EE : Int)]) (by simp [results, Tryd.results17, go_sem, p0, p1, p2, p3, p4, p5, p6, p7]) rfl ?_
          rw [HRE.out]
          exact ⟨none, 0, 0, rfl, srd_nil _, SX.bel.trans (hk8.below SX.bel.size (fun _ e => by omega))⟩
    · obtain rfl : m = 0 := by omega
      have HF' : Hid (rdFrom (x : Int) 6 0 sz0 Y1 = (⟨A, B, T, L, Nn, F⟩, Z, 0)) := HF.out
      clear HF
      by_cases hn0 : n2 = 0
      · subst hn0
        have HR' : Hid (rdSt X = (N, I, ⟨A, B, T, L, Nn, F⟩, 0)) := by rw [HR.out _ _ _ HF'.out, if_neg (by simp), if_neg (by omega)]; rfl
        obtain ⟨g0, g1, g2, g3, g4, g5, g6, g7⟩ := SS.f7.sz
        have hz := SS.f2
        obtain ⟨z0, z1, z2, z3, z4, z5, z6, z7⟩ := Sz8.sz (K := 0) (I := 0) (A := ⟨#[]⟩) (B := ⟨#[]⟩) (T := ⟨#[]⟩) (la := none) (ln := 0) (lc := 0) (N := 0) (F := 0) SS.f2
        have t0 := SS.f2.thaw 0; have t1 := SS.f2.thaw 1; have t2 := SS.f2.thaw 2; have t3 := SS.f2.thaw 3; have t4 := SS.f2.thaw 4; have t5 := SS.f2.thaw 5; have t6 := SS.f2.thaw 6; have t7 := SS.f2.thaw 7
        go_wp2
        obtain ⟨hz8, hk8⟩ := store8 (K := (N : Int)) (I := I) (A := A) (B := B) (T := T) (la := la) (ln := ln) (lc := lc) (N := Nn) (F := F) hz
        generalize World.setCell _ _ (.float .f64 F) = w8 at hz8 hk8 ⊢
        obtain ⟨p0, p1, p2, p3, p4, p5, p6, p7⟩ := hz8.sz
        refine bodyPost_ret (v := .tuple #[.agg #[.int .i64 (N : Int), .int .u64 I, .string A, .string B, .string T, .slice la ln lc, .int .i64 Nn, .float .f64 F], .int .i64 0]) (by simp [results, Tryd.results17, go_sem, p0, p1, p2, p3, p4, p5, p6, p7]) rfl ?_
        rw [HR'.out]
        have hl7 := SS.lt
        exact ⟨la, ln, lc, rfl, srd_keep hsl hk8 (fun ad he => by have := hnl ad he; omega), SS.bel.trans (hk8.below SS.bel.size (fun _ e => by omega))⟩
      · have HR' : Hid (rdSt X = (0, 0, sz0, 2)) := by rw [HR.out _ _ _ HF'.out, if_neg (by simp), if_pos (by omega)]; rfl
        have hnp : (0 : Int) < (n2 : Int) := by omega
        have SX := SS
        obtain ⟨q0, q1, q2, q3, q4, q5, q6, q7⟩ := Sz8.sz (K := 0) (I := 0) (A := ⟨#[]⟩) (B := ⟨#[]⟩) (T := ⟨#[]⟩) (la := none) (ln := 0) (lc := 0) (N := 0) (F := 0) SX.f4; obtain ⟨z0, z1, z2, z3, z4, z5, z6, z7⟩ := Sz8.sz (K := 0) (I := 0) (A := ⟨#[]⟩) (B := ⟨#[]⟩) (T := ⟨#[]⟩) (la := none) (ln := 0) (lc := 0) (N := 0) (F := 0) SX.f2; have t0 := SX.f2.thaw 0; have t1 := SX.f2.thaw 1; have t2 := SX.f2.thaw 2; have t3 := SX.f2.thaw 3; have t4 := SX.f2.thaw 4; have t5 := SX.f2.thaw 5; have t6 := SX.f2.thaw 6; have t7 := SX.f2.thaw 7
        go_wp2
        obtain ⟨hz8, hk8⟩ := store8 (K := 0) (I := 0) (A := ⟨#[]⟩) (B := ⟨#[]⟩) (T := ⟨#[]⟩) (la := none) (ln := 0) (lc := 0) (N := 0) (F := 0) SX.f2
        clear q0 q1 q2 q3 q4 q5 q6 q7 z0 z1 z2 z3 z4 z5 z6 z7 t0 t1 t2 t3 t4 t5 t6 t7
        generalize World.setCell _ _ (.float .f64 0) = w8 at hz8 hk8 ⊢
        obtain ⟨p0, p1, p2, p3, p4, p5, p6, p7⟩ := hz8.sz
        refine bodyPost_ret (v := .tuple #[.agg #[.int .i64 0, .int .u64 0, .string ⟨#[]⟩, .string ⟨#[]⟩, .string ⟨#[]⟩, .slice none 0 0, .int .i64 0, .float .f64 0], .int .i64 2]) (by simp [results, Tryd.results17, go_sem, p0, p1, p2, p3, p4, p5, p6, p7]) rfl ?_
        rw [HR'.out]
        exact ⟨none, 0, 0, rfl, srd_nil _, SX.bel.trans (hk8.below SX.bel.size (fun _ e => by omega))⟩


theorem refRead_any (a : Option Addr) (n c : Nat) (X : List Int) (w : World) (hR : Rd w a n c X) (hn : n ≤ 100000) : Calls Tryd.prog 17 #[.slice a n c] w (AnsRR (rdSt X) w) := by
  obtain ⟨N, k, E, hs⟩ : ∃ N k E, scan X 0 0 = (N, k, E) := ⟨_, _, _, rfl⟩
  have hN : N < 18446744073709551616 := by have := scan_lt X 0 0 hR.bytes (by omega) (by simp); rw [hs] at this; exact this
  by_cases hE : E = 0
  · subst hE
    cases hk : kn (N : Int) with
    | false => exact rr_kind a n c X w hR hn hs hN hk
    | true =>
      obtain ⟨I, k1, E1, hs1⟩ : ∃ I k1 E1, scan (X.drop k) 0 0 = (I, k1, E1) := ⟨_, _, _, rfl⟩
      by_cases hE1 : E1 = 0
      · subst hE1
        obtain ⟨Y, hY⟩ : ∃ Y, (X.drop k).drop k1 = Y := ⟨_, rfl⟩
        by_cases hY0 : Y.length = 0
        · exact rr_has0 a n c X w hR hn hs hk hs1 hY hY0
        · by_cases hH : herr N Y = 0
          · exact rr_parts a n c X w hR hn hs hk hs1 hY (by omega) hH
          · exact rr_has2 a n c X w hR hn hs hk hs1 hY (by omega) hH
      · exact rr_id a n c X w hR hn hs hk hs1 hE1
  · exact rr_scan a n c X w hR hn hs hE

end Go.Proofs.YtomkcmkbehcjnaaDoor
