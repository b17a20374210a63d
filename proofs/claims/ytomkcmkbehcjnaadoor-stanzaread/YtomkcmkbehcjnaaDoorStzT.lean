/- The document's Read: the errors ahead of the parts. -/
import Derived.Test.YtomkcmkbehcjnaaDoorStzS
import Derived.Laws.ResultCell
namespace Go.Proofs.YtomkcmkbehcjnaaDoor
open Go.RowKit

abbrev AnsRR (p : Nat × Nat × Sz × Nat) (w : World) (e : Ending) (w' : World) : Prop :=
  ∃ la ln lc, e = .returned (.tuple #[SzV p la ln lc, .int .i64 (p.2.2.2 : Int)]) ∧ SRd w' la ln lc p.2.2.1.L ∧ Below w.heap.size w w'

theorem and64 : ∀ x, x < 256 → ∀ k, k < 6 → bits .and .i64 ((x : Nat) : Int) ((2 ^ k : Nat) : Int) = bits .and .u8 ((x : Nat) : Int) ((2 ^ k : Nat) : Int) := by decide +kernel
theorem andNot64 : ∀ x, x < 256 → ∀ y, y < 64 → bits .andNot .i64 ((x : Nat) : Int) ((y : Nat) : Int) = bits .andNot .u8 ((x : Nat) : Int) ((y : Nat) : Int) := by decide +kernel
theorem kp_lt : ∀ k, kp k < 64 := by
  intro k
  by_cases h : k < 47
  · have : ∀ k, k < 47 → kp k < 64 := by decide +kernel
    exact this k h
  · have : kp k = 0 := by unfold kp kindTab; simp [List.getD]; rw [List.getElem?_eq_none (by simp; omega)]; rfl
    omega
theorem rp_lt (K : Int) : (decide (rp K < 0)) = !(kn K) := by
  unfold rp
  cases kn K with
  | false => rfl
  | true => rw [if_pos rfl]; simp

section
variable (a : Option Addr) (n c : Nat) (X : List Int) (w : World)
theorem w2_bel : Below w.heap.size w ((w.alloc (.cells #[.int .i64 0, .int .u64 0, .string ⟨#[]⟩, .string ⟨#[]⟩, .string ⟨#[]⟩, .slice none 0 0, .int .i64 0, .float .f64 0] 26)).alloc (.cells #[.int .i64 0, .int .u64 0, .string ⟨#[]⟩, .string ⟨#[]⟩, .string ⟨#[]⟩, .slice none 0 0, .int .i64 0, .float .f64 0] 26)) := ((Below.refl _ _).alloc (Nat.le_refl _) _).alloc (by simp) _
theorem w2_b2 : Sz8 ((w.alloc (.cells #[.int .i64 0, .int .u64 0, .string ⟨#[]⟩, .string ⟨#[]⟩, .string ⟨#[]⟩, .slice none 0 0, .int .i64 0, .float .f64 0] 26)).alloc (.cells #[.int .i64 0, .int .u64 0, .string ⟨#[]⟩, .string ⟨#[]⟩, .string ⟨#[]⟩, .slice none 0 0, .int .i64 0, .float .f64 0] 26)) w.heap.size zcells := SzC8.new w _
theorem w2_b4 : Sz8 ((w.alloc (.cells #[.int .i64 0, .int .u64 0, .string ⟨#[]⟩, .string ⟨#[]⟩, .string ⟨#[]⟩, .slice none 0 0, .int .i64 0, .float .f64 0] 26)).alloc (.cells #[.int .i64 0, .int .u64 0, .string ⟨#[]⟩, .string ⟨#[]⟩, .string ⟨#[]⟩, .slice none 0 0, .int .i64 0, .float .f64 0] 26)) (w.heap.size + 1) zcells := by
  have h := Sz8.new (w.alloc (.cells #[.int .i64 0, .int .u64 0, .string ⟨#[]⟩, .string ⟨#[]⟩, .string ⟨#[]⟩, .slice none 0 0, .int .i64 0, .float .f64 0] 26))
  simpa using h
theorem w2_sz : ((w.alloc (.cells #[.int .i64 0, .int .u64 0, .string ⟨#[]⟩, .string ⟨#[]⟩, .string ⟨#[]⟩, .slice none 0 0, .int .i64 0, .float .f64 0] 26)).alloc (.cells #[.int .i64 0, .int .u64 0, .string ⟨#[]⟩, .string ⟨#[]⟩, .string ⟨#[]⟩, .slice none 0 0, .int .i64 0, .float .f64 0] 26)).heap.size = w.heap.size + 2 := by simp
end

set_option maxHeartbeats 1600000 in
set_option maxRecDepth 100000 in
theorem rr_scan (a : Option Addr) (n c : Nat) (X : List Int) (w : World) (hR : Rd w a n c X) (hn : n ≤ 100000) {N k E : Nat} (hs : scan X 0 0 = (N, k, E)) (hE : E ≠ 0) : Calls Tryd.prog 17 #[.slice a n c] w (AnsRR (rdSt X) w) := by
  have hsf := run_store_float
  have hb2 := w2_bel w
  have hz2 := w2_b2 w
  have hz4 := w2_b4 w
  have HZ2 : Hid (((w.alloc (.cells #[.int .i64 0, .int .u64 0, .string ⟨#[]⟩, .string ⟨#[]⟩, .string ⟨#[]⟩, .slice none 0 0, .int .i64 0, .float .f64 0] 26)).alloc (.cells #[.int .i64 0, .int .u64 0, .string ⟨#[]⟩, .string ⟨#[]⟩, .string ⟨#[]⟩, .slice none 0 0, .int .i64 0, .float .f64 0] 26)).heap.size = w.heap.size + 2) := w2_sz w
  have cU := refUintD X a n c _ (hR.carry (Nat.le_refl _) hb2) (by omega)
  unfold AnsU at cU
  have HR : Hid (rdSt X = (0, 0, sz0, E)) := by
    have e : kerr N E = E := by unfold kerr; rw [if_pos hE]
    have := rdSt_kind hs (by rw [e]; exact hE)
    rw [e] at this; exact this
  rw [hs] at cU
  have hE' : ((E : Int) != 0) = true := by simp; omega
  clear hs
  go_enter Tryd.func17, Tryd.ntmps17
  go_wp2_with (go_at_call 39; refine cU.mono ?_; rintro e w3 ⟨a3, n3, c3, rfl, hr3, hx3⟩; have k3 := Keep.ofBelow (S := fun _ => False) hx3; have hb3 := hb2.trans (Below.mono hx3 hb2.size); have hz23 := hz2.keep k3 (fun h => h); have hz43 := hz4.keep k3 (fun h => h); obtain ⟨q0, q1, q2, q3, q4, q5, q6, q7⟩ := Sz8.sz (K := 0) (I := 0) (A := ⟨#[]⟩) (B := ⟨#[]⟩) (T := ⟨#[]⟩) (la := none) (ln := 0) (lc := 0) (N := 0) (F := 0) hz43; obtain ⟨z0, z1, z2, z3, z4, z5, z6, z7⟩ := Sz8.sz (K := 0) (I := 0) (A := ⟨#[]⟩) (B := ⟨#[]⟩) (T := ⟨#[]⟩) (la := none) (ln := 0) (lc := 0) (N := 0) (F := 0) hz23; have t0 := hz23.thaw 0; have t1 := hz23.thaw 1; have t2 := hz23.thaw 2; have t3 := hz23.thaw 3; have t4 := hz23.thaw 4; have t5 := hz23.thaw 5; have t6 := hz23.thaw 6; have t7 := hz23.thaw 7)
  obtain ⟨hz8, hk8⟩ := store8 (K := 0) (I := 0) (A := ⟨#[]⟩) (B := ⟨#[]⟩) (T := ⟨#[]⟩) (la := none) (ln := 0) (lc := 0) (N := 0) (F := 0) hz23
  clear q0 q1 q2 q3 q4 q5 q6 q7 z0 z1 z2 z3 z4 z5 z6 z7 t0 t1 t2 t3 t4 t5 t6 t7
  generalize World.setCell _ _ (.float .f64 0) = w8 at hz8 hk8 ⊢
  obtain ⟨p0, p1, p2, p3, p4, p5, p6, p7⟩ := hz8.sz
  refine bodyPost_ret (v := .tuple #[.agg #[.int .i64 0, .int .u64 0, .string ⟨#[]⟩, .string ⟨#[]⟩, .string ⟨#[]⟩, .slice none 0 0, .int .i64 0, .float .f64 0], .int .i64 (E : Int)]) (by simp [results, Tryd.results17, go_sem, p0, p1, p2, p3, p4, p5, p6, p7]) rfl ?_
  rw [HR.out]
  exact ⟨none, 0, 0, rfl, srd_nil _, hb3.trans (hk8.below hb3.size (fun _ e => by omega))⟩

set_option maxHeartbeats 1600000 in
set_option maxRecDepth 100000 in
theorem rr_kind (a : Option Addr) (n c : Nat) (X : List Int) (w : World) (hR : Rd w a n c X) (hn : n ≤ 100000) {N k : Nat} (hs : scan X 0 0 = (N, k, 0)) (hN : N < 18446744073709551616) (hE : kn (N : Int) = false) : Calls Tryd.prog 17 #[.slice a n c] w (AnsRR (rdSt X) w) := by
  have hsf := run_store_float
  have hb2 := w2_bel w
  have hz2 := w2_b2 w
  have hz4 := w2_b4 w
  have HZ2 : Hid (((w.alloc (.cells #[.int .i64 0, .int .u64 0, .string ⟨#[]⟩, .string ⟨#[]⟩, .string ⟨#[]⟩, .slice none 0 0, .int .i64 0, .float .f64 0] 26)).alloc (.cells #[.int .i64 0, .int .u64 0, .string ⟨#[]⟩, .string ⟨#[]⟩, .string ⟨#[]⟩, .slice none 0 0, .int .i64 0, .float .f64 0] 26)).heap.size = w.heap.size + 2) := w2_sz w
  have cU := refUintD X a n c _ (hR.carry (Nat.le_refl _) hb2) (by omega)
  unfold AnsU at cU
  have HR : Hid (rdSt X = (0, 0, sz0, 3)) := by
    have e : kerr N 0 = 3 := by unfold kerr; rw [if_neg (by simp), hE]; rfl
    have := rdSt_kind hs (by rw [e]; decide)
    rw [e] at this; exact this
  have huN : uN X = N := by unfold uN; rw [hs]; rfl
  rw [huN, hs] at cU
  clear hs huN
  by_cases hbig : (2147483648 : Int) ≤ (N : Int)
  · go_enter Tryd.func17, Tryd.ntmps17
    go_wp2_with (go_at_call 39; refine cU.mono ?_; rintro e w3 ⟨a3, n3, c3, rfl, hr3, hx3⟩; have k3 := Keep.ofBelow (S := fun _ => False) hx3; have hb3 := hb2.trans (Below.mono hx3 hb2.size); have hz23 := hz2.keep k3 (fun h => h); have hz43 := hz4.keep k3 (fun h => h); obtain ⟨q0, q1, q2, q3, q4, q5, q6, q7⟩ := Sz8.sz (K := 0) (I := 0) (A := ⟨#[]⟩) (B := ⟨#[]⟩) (T := ⟨#[]⟩) (la := none) (ln := 0) (lc := 0) (N := 0) (F := 0) hz43; obtain ⟨z0, z1, z2, z3, z4, z5, z6, z7⟩ := Sz8.sz (K := 0) (I := 0) (A := ⟨#[]⟩) (B := ⟨#[]⟩) (T := ⟨#[]⟩) (la := none) (ln := 0) (lc := 0) (N := 0) (F := 0) hz23; have t0 := hz23.thaw 0; have t1 := hz23.thaw 1; have t2 := hz23.thaw 2; have t3 := hz23.thaw 3; have t4 := hz23.thaw 4; have t5 := hz23.thaw 5; have t6 := hz23.thaw 6; have t7 := hz23.thaw 7)
    obtain ⟨hz8, hk8⟩ := store8 (K := 0) (I := 0) (A := ⟨#[]⟩) (B := ⟨#[]⟩) (T := ⟨#[]⟩) (la := none) (ln := 0) (lc := 0) (N := 0) (F := 0) hz23
    clear q0 q1 q2 q3 q4 q5 q6 q7 z0 z1 z2 z3 z4 z5 z6 z7 t0 t1 t2 t3 t4 t5 t6 t7
    generalize World.setCell _ _ (.float .f64 0) = w8 at hz8 hk8 ⊢
    obtain ⟨p0, p1, p2, p3, p4, p5, p6, p7⟩ := hz8.sz
    refine bodyPost_ret (v := .tuple #[.agg #[.int .i64 0, .int .u64 0, .string ⟨#[]⟩, .string ⟨#[]⟩, .string ⟨#[]⟩, .slice none 0 0, .int .i64 0, .float .f64 0], .int .i64 3]) (by simp [results, Tryd.results17, go_sem, p0, p1, p2, p3, p4, p5, p6, p7]) rfl ?_
    rw [HR.out]
    exact ⟨none, 0, 0, rfl, srd_nil _, hb3.trans (hk8.below hb3.size (fun _ e => by omega))⟩
  · have hw64 : wrap64 (N : Int) = (N : Int) := by unfold wrap64; omega
    have hwi : IntKind.i64.wrap (N : Int) = (N : Int) := by rw [IntKind.wrap_i64]; omega
    have hrp : decide (rp (N : Int) < 0) = true := by rw [rp_lt, hE]; rfl
    have hrp' : rp (N : Int) < 0 := of_decide_eq_true hrp
    go_enter Tryd.func17, Tryd.ntmps17
    go_wp2_with (first
      | (go_at_call 39; refine cU.mono ?_; rintro e w3 ⟨a3, n3, c3, rfl, hr3, hx3⟩; have k3 := Keep.ofBelow (S := fun _ => False) hx3; have hb3 := hb2.trans (Below.mono hx3 hb2.size); have hz23 := hz2.keep k3 (fun h => h); have hz43 := hz4.keep k3 (fun h => h); obtain ⟨q0, q1, q2, q3, q4, q5, q6, q7⟩ := Sz8.sz (K := 0) (I := 0) (A := ⟨#[]⟩) (B := ⟨#[]⟩) (T := ⟨#[]⟩) (la := none) (ln := 0) (lc := 0) (N := 0) (F := 0) hz43; obtain ⟨z0, z1, z2, z3, z4, z5, z6, z7⟩ := Sz8.sz (K := 0) (I := 0) (A := ⟨#[]⟩) (B := ⟨#[]⟩) (T := ⟨#[]⟩) (la := none) (ln := 0) (lc := 0) (N := 0) (F := 0) hz23; have t0 := hz23.thaw 0; have t1 := hz23.thaw 1; have t2 := hz23.thaw 2; have t3 := hz23.thaw 3; have t4 := hz23.thaw 4; have t5 := hz23.thaw 5; have t6 := hz23.thaw 6; have t7 := hz23.thaw 7)
      | (go_at_call 28; refine (parts_any _ _).mono ?_; rintro e w4 ⟨rfl, hw4⟩; replace hw4 := hw4.symm; subst hw4))
    obtain ⟨hz8, hk8⟩ := store8 (K := 0) (I := 0) (A := ⟨#[]⟩) (B := ⟨#[]⟩) (T := ⟨#[]⟩) (la := none) (ln := 0) (lc := 0) (N := 0) (F := 0) hz23
    clear q0 q1 q2 q3 q4 q5 q6 q7 z0 z1 z2 z3 z4 z5 z6 z7 t0 t1 t2 t3 t4 t5 t6 t7
    generalize World.setCell _ _ (.float .f64 0) = w8 at hz8 hk8 ⊢
    obtain ⟨p0, p1, p2, p3, p4, p5, p6, p7⟩ := hz8.sz
    refine bodyPost_ret (v := .tuple #[.agg #[.int .i64 0, .int .u64 0, .string ⟨#[]⟩, .string ⟨#[]⟩, .string ⟨#[]⟩, .slice none 0 0, .int .i64 0, .float .f64 0], .int .i64 3]) (by simp [results, Tryd.results17, go_sem, p0, p1, p2, p3, p4, p5, p6, p7]) rfl ?_
    rw [HR.out]
    exact ⟨none, 0, 0, rfl, srd_nil _, hb3.trans (hk8.below hb3.size (fun _ e => by omega))⟩

theorem Sz8K.new (w : World) (N : Nat) : Sz8 (w.alloc (.cells #[.int .i64 (N : Int), .int .u64 0, .string ⟨#[]⟩, .string ⟨#[]⟩, .string ⟨#[]⟩, .slice none 0 0, .int .i64 0, .float .f64 0] 26)) w.heap.size [.int .i64 (N : Int), .int .u64 0, .string ⟨#[]⟩, .string ⟨#[]⟩, .string ⟨#[]⟩, .slice none 0 0, .int .i64 0, .float .f64 0] := by
  have h := (Sz8.new w).set (i := 0) (by omega) (.int .i64 (N : Int))
  have e : (w.alloc (.cells #[.int .i64 0, .int .u64 0, .string ⟨#[]⟩, .string ⟨#[]⟩, .string ⟨#[]⟩, .slice none 0 0, .int .i64 0, .float .f64 0] 26)).setCell ⟨w.heap.size, 0, none⟩ (.int .i64 (N : Int)) = w.alloc (.cells #[.int .i64 (N : Int), .int .u64 0, .string ⟨#[]⟩, .string ⟨#[]⟩, .string ⟨#[]⟩, .slice none 0 0, .int .i64 0, .float .f64 0] 26) := by
    rw [World.setCell_alloc_at _ _ _ _ _ rfl]
    rfl
  rw [e] at h
  exact h

set_option maxHeartbeats 1600000 in
set_option maxRecDepth 100000 in
theorem rr_id (a : Option Addr) (n c : Nat) (X : List Int) (w : World) (hR : Rd w a n c X) (hn : n ≤ 100000) {N k I k1 E1 : Nat} (hs : scan X 0 0 = (N, k, 0)) (hE : kn (N : Int) = true) (hs1 : scan (X.drop k) 0 0 = (I, k1, E1)) (hE1 : E1 ≠ 0) : Calls Tryd.prog 17 #[.slice a n c] w (AnsRR (rdSt X) w) := by
  have hsf := run_store_float
  have hb2 := w2_bel w
  have hz2 := w2_b2 w
  have hz4 := w2_b4 w
  have HZ2 : Hid (((w.alloc (.cells #[.int .i64 0, .int .u64 0, .string ⟨#[]⟩, .string ⟨#[]⟩, .string ⟨#[]⟩, .slice none 0 0, .int .i64 0, .float .f64 0] 26)).alloc (.cells #[.int .i64 0, .int .u64 0, .string ⟨#[]⟩, .string ⟨#[]⟩, .string ⟨#[]⟩, .slice none 0 0, .int .i64 0, .float .f64 0] 26)).heap.size = w.heap.size + 2) := w2_sz w
  have cU := refUintD X a n c _ (hR.carry (Nat.le_refl _) hb2) (by omega)
  unfold AnsU at cU
  have hK0 : kerr N 0 = 0 := by unfold kerr; rw [if_neg (by simp), hE]; rfl
  have HR : Hid (rdSt X = (0, 0, sz0, E1)) := rdSt_id hs hK0 hs1 hE1
  have hN47 := kn_bd hE
  have hw64 : wrap64 (N : Int) = (N : Int) := by unfold wrap64; omega
  have hwi : IntKind.i64.wrap (N : Int) = (N : Int) := by rw [IntKind.wrap_i64]; omega
  have hsm : decide ((2147483648 : Int) ≤ (N : Int)) = false := decide_eq_false (by omega)
  have hrp0 : rp (N : Int) = ((kp N : Nat) : Int) := by unfold rp; rw [hE, if_pos rfl, Int.toNat_natCast]
  have HRP : Hid (rp (N : Int) = ((kp N : Nat) : Int)) := hrp0
  have hrp : decide (rp (N : Int) < 0) = false := decide_eq_false (by rw [hrp0]; omega)
  clear hrp0
  have huN : uN X = N := by unfold uN; rw [hs]; rfl
  have huR : uR X = X.drop k := by unfold uR; rw [hs]; rfl
  rw [huN, huR, hs] at cU
  have hl1 : (X.drop k).length ≤ n := by rw [List.length_drop, hR.len]; omega
  clear hs huN huR hK0 hE
  generalize X.drop k = X1 at cU hs1 hl1
  have hE' : ((E1 : Int) != 0) = true := by simp; omega
  have tok : True := trivial
  go_enter Tryd.func17, Tryd.ntmps17
  go_wp2_with (first
    | (go_at_call 39; clear tok; refine cU.mono ?_; rintro e w3 ⟨a3, n3, c3, rfl, hr3, hx3⟩; have k3 := Keep.ofBelow (S := fun _ => False) hx3; have hb3 := hb2.trans (Below.mono hx3 hb2.size); have hz23 := hz2.keep k3 (fun h => h); have hz43 := hz4.keep k3 (fun h => h); have hn3 := hr3.len; have hs3 : w.heap.size + 2 ≤ w3.heap.size := (by rw [← HZ2.out]; exact Below.size hx3))
    | (go_at_call 28; refine (parts_any _ _).mono ?_; rintro e w4 ⟨rfl, hw4⟩; replace hw4 := hw4.symm; subst hw4)
    | (go_at_call 39; have hb4 : Below w3.heap.size w3 (w3.alloc (.cells #[.int .i64 (N : Int), .int .u64 0, .string ⟨#[]⟩, .string ⟨#[]⟩, .string ⟨#[]⟩, .slice none 0 0, .int .i64 0, .float .f64 0] 26)) := (Below.refl _ _).alloc (Nat.le_refl _) _; have k4 := Keep.ofBelow (S := fun _ => False) hb4; have cI := refUintD X1 a3 n3 c3 _ (hr3.carry (Nat.le_refl _) hb4) (by omega); unfold AnsU at cI; rw [hs1] at cI; refine cI.mono ?_; rintro e w5 ⟨a5, n5, c5, rfl, hr5, hx5⟩; have k5 := Keep.ofBelow (S := fun _ => False) hx5; have hz25 := (hz23.keep k4 (fun h => h)).keep k5 (fun h => h); have hz45 := (hz43.keep k4 (fun h => h)).keep k5 (fun h => h); have hz75 := (Sz8K.new w3 N).keep k5 (fun h => h); have y1 := hz75.cell 1 (by omega); have u1 := hz75.thaw 1; have hb5 := hb3.trans ((hb4.trans (Below.mono hx5 hb4.size)).mono hb3.size); have hs5 : w3.heap.size < w5.heap.size := hz75.lt; have kS : Keep (fun k => k = w3.heap.size) w5 (w5.setCell ⟨w3.heap.size, 1, none⟩ (.int .u64 (uN X1 : Nat))) := (Keep.refl (fun k => k = w3.heap.size) w5).setCell (p := ⟨w3.heap.size, 1, none⟩) (show (fun k => k = w3.heap.size) w3.heap.size from rfl) _; have hz26 := hz25.keep kS (fun e => by omega); have hz46 := hz45.keep kS (fun e => by omega); have hb6 := hb5.trans (kS.below hb5.size (fun _ e => by omega)); have hz76 := hz75.set (i := 1) (by omega) (.int .u64 (uN X1 : Nat)); obtain ⟨q0, q1, q2, q3, q4, q5, q6, q7⟩ := Sz8.sz (K := 0) (I := 0) (A := ⟨#[]⟩) (B := ⟨#[]⟩) (T := ⟨#[]⟩) (la := none) (ln := 0) (lc := 0) (N := 0) (F := 0) hz46; obtain ⟨z0, z1, z2, z3, z4, z5, z6, z7⟩ := Sz8.sz (K := 0) (I := 0) (A := ⟨#[]⟩) (B := ⟨#[]⟩) (T := ⟨#[]⟩) (la := none) (ln := 0) (lc := 0) (N := 0) (F := 0) hz26; have t0 := hz26.thaw 0; have t1 := hz26.thaw 1; have t2 := hz26.thaw 2; have t3 := hz26.thaw 3; have t4 := hz26.thaw 4; have t5 := hz26.thaw 5; have t6 := hz26.thaw 6; have t7 := hz26.thaw 7))
  obtain ⟨hz8, hk8⟩ := store8 (K := 0) (I := 0) (A := ⟨#[]⟩) (B := ⟨#[]⟩) (T := ⟨#[]⟩) (la := none) (ln := 0) (lc := 0) (N := 0) (F := 0) hz26
  clear q0 q1 q2 q3 q4 q5 q6 q7 z0 z1 z2 z3 z4 z5 z6 z7 t0 t1 t2 t3 t4 t5 t6 t7
  generalize World.setCell _ _ (.float .f64 0) = w8 at hz8 hk8 ⊢
  obtain ⟨p0, p1, p2, p3, p4, p5, p6, p7⟩ := hz8.sz
  refine bodyPost_ret (v := .tuple #[.agg #[.int .i64 0, .int .u64 0, .string ⟨#[]⟩, .string ⟨#[]⟩, .string ⟨#[]⟩, .slice none 0 0, .int .i64 0, .float .f64 0], .int .i64 (E1 : Int)]) (by simp [results, Tryd.results17, go_sem, p0, p1, p2, p3, p4, p5, p6, p7]) rfl ?_
  rw [HR.out]
  exact ⟨none, 0, 0, rfl, srd_nil _, hb6.trans (hk8.below hb6.size (fun _ e => by omega))⟩

set_option maxHeartbeats 1600000 in
set_option maxRecDepth 100000 in
theorem rr_has0 (a : Option Addr) (n c : Nat) (X : List Int) (w : World) (hR : Rd w a n c X) (hn : n ≤ 100000) {N k I k1 : Nat} {Y : List Int} (hs : scan X 0 0 = (N, k, 0)) (hE : kn (N : Int) = true) (hs1 : scan (X.drop k) 0 0 = (I, k1, 0)) (hY : (X.drop k).drop k1 = Y) (hY0 : Y.length = 0) : Calls Tryd.prog 17 #[.slice a n c] w (AnsRR (rdSt X) w) := by
  have hsf := run_store_float
  have hb2 := w2_bel w
  have hz2 := w2_b2 w
  have hz4 := w2_b4 w
  have HZ2 : Hid (((w.alloc (.cells #[.int .i64 0, .int .u64 0, .string ⟨#[]⟩, .string ⟨#[]⟩, .string ⟨#[]⟩, .slice none 0 0, .int .i64 0, .float .f64 0] 26)).alloc (.cells #[.int .i64 0, .int .u64 0, .string ⟨#[]⟩, .string ⟨#[]⟩, .string ⟨#[]⟩, .slice none 0 0, .int .i64 0, .float .f64 0] 26)).heap.size = w.heap.size + 2) := w2_sz w
  have cU := refUintD X a n c _ (hR.carry (Nat.le_refl _) hb2) (by omega)
  unfold AnsU at cU
  have hK0 : kerr N 0 = 0 := by unfold kerr; rw [if_neg (by simp), hE]; rfl
  have hH : herr N Y = 2 := by unfold herr; rw [if_pos hY0]
  have HR : Hid (rdSt X = (0, 0, sz0, 2)) := by
    have := rdSt_has hs hK0 hs1 hY (by rw [hH]; decide)
    rw [hH] at this; exact this
  have hN47 := kn_bd hE
  have hw64 : wrap64 (N : Int) = (N : Int) := by unfold wrap64; omega
  have hwi : IntKind.i64.wrap (N : Int) = (N : Int) := by rw [IntKind.wrap_i64]; omega
  have hsm : decide ((2147483648 : Int) ≤ (N : Int)) = false := decide_eq_false (by omega)
  have hrp0 : rp (N : Int) = ((kp N : Nat) : Int) := by unfold rp; rw [hE, if_pos rfl, Int.toNat_natCast]
  have HRP : Hid (rp (N : Int) = ((kp N : Nat) : Int)) := hrp0
  have hrp : decide (rp (N : Int) < 0) = false := decide_eq_false (by rw [hrp0]; omega)
  clear hrp0
  have huN : uN X = N := by unfold uN; rw [hs]; rfl
  have huR : uR X = X.drop k := by unfold uR; rw [hs]; rfl
  rw [huN, huR, hs] at cU
  have hl1 : (X.drop k).length ≤ n := by rw [List.length_drop, hR.len]; omega
  clear hs huN huR hK0 hE
  generalize X.drop k = X1 at cU hs1 hl1 hY
  have huI : uN X1 = I := by unfold uN; rw [hs1]; rfl
  have huY : uR X1 = Y := by unfold uR; rw [hs1]; exact hY
  have hlY : Y.length ≤ n := by rw [← hY, List.length_drop]; omega
  have HI : Hid (uN X1 = I) := huI
  have HY : Hid (uR X1 = Y) := huY
  clear huI huY hY
  have tok : True := trivial
  go_enter Tryd.func17, Tryd.ntmps17
  go_wp2_with (first
    | (go_at_call 39; clear tok; refine cU.mono ?_; rintro e w3 ⟨a3, n3, c3, rfl, hr3, hx3⟩; have k3 := Keep.ofBelow (S := fun _ => False) hx3; have hb3 := hb2.trans (Below.mono hx3 hb2.size); have hz23 := hz2.keep k3 (fun h => h); have hz43 := hz4.keep k3 (fun h => h); have hn3 := hr3.len; have hs3 : w.heap.size + 2 ≤ w3.heap.size := (by rw [← HZ2.out]; exact Below.size hx3))
    | (go_at_call 28; refine (parts_any _ _).mono ?_; rintro e w4 ⟨rfl, hw4⟩; replace hw4 := hw4.symm; subst hw4)
    | (go_at_call 39; have hb4 : Below w3.heap.size w3 (w3.alloc (.cells #[.int .i64 (N : Int), .int .u64 0, .string ⟨#[]⟩, .string ⟨#[]⟩, .string ⟨#[]⟩, .slice none 0 0, .int .i64 0, .float .f64 0] 26)) := (Below.refl _ _).alloc (Nat.le_refl _) _; have k4 := Keep.ofBelow (S := fun _ => False) hb4; have cI := refUintD X1 a3 n3 c3 _ (hr3.carry (Nat.le_refl _) hb4) (by omega); unfold AnsU at cI; rw [hs1] at cI; rw [HI.out, HY.out] at cI; refine cI.mono ?_; rintro e w5 ⟨a5, n5, c5, rfl, hr5, hx5⟩; have k5 := Keep.ofBelow (S := fun _ => False) hx5; have hz25 := (hz23.keep k4 (fun h => h)).keep k5 (fun h => h); have hz45 := (hz43.keep k4 (fun h => h)).keep k5 (fun h => h); have hz75 := (Sz8K.new w3 N).keep k5 (fun h => h); have y1 := hz75.cell 1 (by omega); have u1 := hz75.thaw 1; have hb5 := hb3.trans ((hb4.trans (Below.mono hx5 hb4.size)).mono hb3.size); have hs5 : w3.heap.size < w5.heap.size := hz75.lt; have kS : Keep (fun k => k = w3.heap.size) w5 (w5.setCell ⟨w3.heap.size, 1, none⟩ (.int .u64 (I : Nat))) := (Keep.refl (fun k => k = w3.heap.size) w5).setCell (p := ⟨w3.heap.size, 1, none⟩) (show (fun k => k = w3.heap.size) w3.heap.size from rfl) _; have hz26 := hz25.keep kS (fun e => by omega); have hz46 := hz45.keep kS (fun e => by omega); have hb6 := hb5.trans (kS.below hb5.size (fun _ e => by omega)); have hz76 := hz75.set (i := 1) (by omega) (.int .u64 (I : Nat)); have hn5 : n5 = 0 := (by have := hr5.len; omega); subst hn5; obtain ⟨q0, q1, q2, q3, q4, q5, q6, q7⟩ := Sz8.sz (K := 0) (I := 0) (A := ⟨#[]⟩) (B := ⟨#[]⟩) (T := ⟨#[]⟩) (la := none) (ln := 0) (lc := 0) (N := 0) (F := 0) hz46; obtain ⟨z0, z1, z2, z3, z4, z5, z6, z7⟩ := Sz8.sz (K := 0) (I := 0) (A := ⟨#[]⟩) (B := ⟨#[]⟩) (T := ⟨#[]⟩) (la := none) (ln := 0) (lc := 0) (N := 0) (F := 0) hz26; have t0 := hz26.thaw 0; have t1 := hz26.thaw 1; have t2 := hz26.thaw 2; have t3 := hz26.thaw 3; have t4 := hz26.thaw 4; have t5 := hz26.thaw 5; have t6 := hz26.thaw 6; have t7 := hz26.thaw 7))
  obtain ⟨hz8, hk8⟩ := store8 (K := 0) (I := 0) (A := ⟨#[]⟩) (B := ⟨#[]⟩) (T := ⟨#[]⟩) (la := none) (ln := 0) (lc := 0) (N := 0) (F := 0) hz26
  clear q0 q1 q2 q3 q4 q5 q6 q7 z0 z1 z2 z3 z4 z5 z6 z7 t0 t1 t2 t3 t4 t5 t6 t7
  generalize World.setCell _ _ (.float .f64 0) = w8 at hz8 hk8 ⊢
  obtain ⟨p0, p1, p2, p3, p4, p5, p6, p7⟩ := hz8.sz
  refine bodyPost_ret (v := .tuple #[.agg #[.int .i64 0, .int .u64 0, .string ⟨#[]⟩, .string ⟨#[]⟩, .string ⟨#[]⟩, .slice none 0 0, .int .i64 0, .float .f64 0], .int .i64 2]) (by simp [results, Tryd.results17, go_sem, p0, p1, p2, p3, p4, p5, p6, p7]) rfl ?_
  rw [HR.out]
  exact ⟨none, 0, 0, rfl, srd_nil _, hb6.trans (hk8.below hb6.size (fun _ e => by omega))⟩


end Go.Proofs.YtomkcmkbehcjnaaDoor
