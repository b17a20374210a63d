/- CredsApart: who fails so often is locked till the time is over, and nobody else. -/
import Derived.Test.YtiidjdedeenijaaDrW
import Derived.Test.YtiidjdedeenijaaDrS
import Derived.Deep.CutRange
namespace Go.Proofs.Ytiidjdedeenijaa
open Go.RowKit

def ann : ByteArray := ⟨#[97, 110, 110]⟩
def bob : ByteArray := ⟨#[98, 111, 98]⟩
theorem bob_ann : bob ≠ ann := by unfold bob ann; intro h; injection h with h; simp at h
theorem ann_small : ann.size ≤ 281474976710656 := by decide
theorem ann_len : ann.size ≤ maxLen := by decide
theorem bob_len : bob.size ≤ maxLen := by decide

theorem tm20 (z : Int) : ∃ k : Nat, wrap64 ((wrap64 (z.tmod 20 + 20)).tmod 20 + 1) = (k : Int) ∧ 1 ≤ k ∧ k ≤ 20 := by
  have h1 : z.tmod 20 < 20 := Int.tmod_lt_of_pos z (by omega)
  have h2 : -20 < z.tmod 20 := by
    have : (-z).tmod 20 < 20 := Int.tmod_lt_of_pos (-z) (by omega)
    rw [Int.neg_tmod] at this; omega
  have h3 : wrap64 (z.tmod 20 + 20) = z.tmod 20 + 20 := by unfold wrap64; omega
  rw [h3, Int.tmod_eq_emod_of_nonneg (by omega)]
  have h5 := Int.emod_lt_of_pos (z.tmod 20 + 20) (show (0 : Int) < 20 by omega)
  have h4 := Int.emod_nonneg (z.tmod 20 + 20) (show (20 : Int) ≠ 0 by omega)
  refine ⟨((z.tmod 20 + 20) % 20 + 1).toNat, ?_, by omega, by omega⟩
  unfold wrap64; omega

/-- The door when i tries of ann's failed, k being the bound. -/
def stA (t s k i : Nat) : ByteArray → Option Tr := mput (fun _ => none) ann (if i = 0 then none else if i < k then some ((i : Int), NI) else lock t s)

theorem stA_zero (t s k : Nat) : stA t s k 0 = fun _ => none := by
  funext x
  unfold stA mput
  rw [if_pos rfl]
  split <;> rfl
theorem stA_tr {t s k i : Nat} (h : i < k) : tr (stA t s k i) ann = ((i : Int), NI) := by
  unfold stA
  rw [tr_put]
  by_cases h0 : i = 0
  · subst h0; rfl
  · rw [if_neg h0, if_pos h]; rfl
theorem mput_mput (m : ByteArray → Option Tr) (u : ByteArray) (a b : Option Tr) : mput (mput m u a) u b = mput m u b := by
  funext x
  unfold mput
  split <;> rfl
theorem stA_fail {t s k i : Nat} (h : i < k) : failM (stA t s k i) ann t k s = stA t s k (i + 1) := by
  unfold failM
  rw [stA_tr h]
  unfold stA
  rw [mput_mput, if_neg (by omega : ¬ i + 1 = 0)]
  congr 1
  by_cases h1 : i + 1 = k
  · subst h1
    rw [if_pos (by simp), if_neg (by omega)]
  · rw [if_neg (by intro e; apply h1; have : ((i : Int) + 1) = (k : Int) := e; omega), if_pos (by omega), kp_some (by show (i : Int) + 1 ≠ 0; omega)]
    simp
theorem stA_other {t s k i : Nat} {x : ByteArray} (h : x ≠ ann) : stA t s k i x = none := mput_other _ _ h
theorem stA_otr {t s k i : Nat} {x : ByteArray} (h : x ≠ ann) : tr (stA t s k i) x = (0, NI) := by unfold tr; rw [stA_other h]; rfl
theorem kp_NI : kp (0, NI) = none := by unfold kp; rw [if_pos ⟨rfl, flt_NI NI⟩]
theorem stA_pass {t s k i : Nat} {x : ByteArray} (h : x ≠ ann) : passM (stA t s k i) x = stA t s k i := by
  unfold passM
  rw [stA_otr h, kp_NI]
  funext y
  by_cases hy : y = x
  · subst hy; rw [mput_same, stA_other h]
  · rw [mput_other _ _ hy]
theorem stA_end (t s k : Nat) (hk : 1 ≤ k) : tr (stA t s k k) ann = (lock t s).getD (0, NI) := by
  unfold stA
  rw [tr_put, if_neg (by omega), if_neg (by omega)]

/-- What lies above something lies above minus infinity. -/
theorem flt_up {t r : Nat} (h : flt t r = true) : flt NI r = true := by
  unfold flt at *
  simp only [Bool.and_eq_true, Bool.not_eq_true', decide_eq_true_eq] at *
  obtain ⟨⟨h1, h2⟩, h3⟩ := h
  refine ⟨⟨by decide, h2⟩, ?_⟩
  have e1 : Fl.sr NI = -(Fl.inf : Int) := by decide
  have hx : Fl.rung t ≤ Fl.inf := by unfold Fl.nan at h1; simp at h1; exact h1
  have : -(Fl.inf : Int) ≤ Fl.sr t := by unfold Fl.sr; split <;> omega
  omega

/-- The lock's end, and the sum. -/
theorem lock_end {t s r : Nat} (h : IsSum t s r) : flt t ((lock t s).getD (0, NI)).2 = flt t r ∧ flt r ((lock t s).getD (0, NI)).2 = false := by
  rw [← lock_of h]
  unfold kp
  by_cases hk : (0 : Int) = 0 ∧ flt NI r = false
  · rw [if_pos hk]
    refine ⟨?_, flt_NI r⟩
    show flt t NI = _
    rw [flt_NI]
    cases hr : flt t r with
    | false => rfl
    | true => rw [flt_up hr] at hk; exact absurd hk.2 (by simp)
  · rw [if_neg hk]
    exact ⟨rfl, flt_irrefl r⟩

def natV : Value → Nat
  | .int _ z => z.toNat
  | _ => 0

theorem ann_ne {x : ByteArray} (h : x ≠ ann) : (x.toList == [97, 110, 110]) = false := by
  rw [beq_eq_false_iff_ne]
  intro e
  apply h
  rw [Lib.toList_data] at e
  apply ByteArray.ext
  exact Array.toList_inj.1 e

set_option maxRecDepth 100000 in
set_option maxHeartbeats 3200000 in
theorem apart_early (M : Int) (S T : Nat) (a : Option Addr) (n c : Nat) (w : World) (h : (Fl.nan S = true ∨ flt S 0 = true) ∨ ((Fl.nan S = false ∧ flt S 0 = false) ∧ Fl.nan T = true)) :
    Calls Try.prog 4 #[.agg #[.int .i64 M, .int .u64 S, .int .u64 T, .slice a n c]] w fun e w' => e = .returned (.bool true) ∧ Below w.heap.size w w' := by
  have hfr := run_from
  obtain ⟨k, hk, hk1, hk2⟩ := tm20 M
  have hW := wakes_any
  have hnn := nan_neq T
  rcases h with h | ⟨⟨h1, h2⟩, h3⟩
  · go_enter Try.func4, Try.ntmps4
    go_wp2
    go_quiet (fail)
    have hb0 : Below w.heap.size w ((w.alloc (Obj.cells #[.int .i64 M, .int .u64 S, .int .u64 T, .slice a n c] 43)).drewN nq) := (((Keep.refl (fun _ => False) _).alloc _).drewN _).below (Nat.le_refl _) (fun _ h => h.elim)
    go_wp2_with (first
      | (go_at_call 7; refine (new_bad k S (Or.inr h) _).mono ?_; rintro e w1 ⟨rfl, rfl⟩)
      | (go_at_call 9; refine (hW _).mono ?_; rintro e w2 ⟨rfl, hb2⟩))
    go_ret
    exact ⟨rfl, hb0.trans (hb2.mono hb0.size)⟩
  · rw [h3] at hnn
    go_enter Try.func4, Try.ntmps4
    go_wp2
    go_quiet (fail)
    have hb0 : Below w.heap.size w ((w.alloc (Obj.cells #[.int .i64 M, .int .u64 S, .int .u64 T, .slice a n c] 43)).drewN nq) := (((Keep.refl (fun _ => False) _).alloc _).drewN _).below (Nat.le_refl _) (fun _ h => h.elim)
    go_wp2_with (first
      | (go_at_call 7; refine (new_ok k S (by omega) h1 h2 _).mono ?_; rintro e w1 ⟨d, bm, rfl, hD1, hd1, hm1, hb1⟩; have hb1' := hb0.trans (hb1.mono hb0.size))
      | (go_at_call 9; refine (hW _).mono ?_; rintro e w2 ⟨rfl, hb2⟩))
    go_ret
    exact ⟨rfl, hb1'.trans (hb2.mono hb1'.size)⟩

set_option maxRecDepth 100000 in
set_option maxHeartbeats 3200000 in
theorem apart_any (M : Int) (S T : Nat) (a : Option Addr) (n c : Nat) (ss : List ByteArray) (w : World) (hR : SRd w a n c ss) (h1 : Fl.nan S = false) (h2 : flt S 0 = false) (h3 : Fl.nan T = false) :
    Calls Try.prog 4 #[.agg #[.int .i64 M, .int .u64 S, .int .u64 T, .slice a n c]] w fun e w' => e = .returned (.bool true) ∧ Below w.heap.size w w' := by
  have hfr := run_from
  obtain ⟨k, hk, hk1, hk2⟩ := tm20 M
  have hnn := nan_neq T
  rw [h3] at hnn
  go_enter Try.func4, Try.ntmps4
  go_wp2
  go_quiet (fail)
  have hb0 : Below w.heap.size w ((w.alloc (Obj.cells #[.int .i64 M, .int .u64 S, .int .u64 T, .slice a n c] 43)).drewN nq) := (((Keep.refl (fun _ => False) _).alloc _).drewN _).below (Nat.le_refl _) (fun _ h => h.elim)
  go_upto_region 7 with (first
    | (go_at_call 7; refine (new_ok k S (by omega) h1 h2 _).mono ?_; rintro e w1 ⟨d, bm, rfl, hD1, hd1, hm1, hb1⟩; have hB1 := hb0.trans (hb1.mono hb0.size); have Hbm : Hid (w.heap.size ≤ bm) := Nat.le_trans hb0.size hm1)
    )
  clear hb0 hb1 hd1 hm1 hk hfr
  rw [← stA_zero T S k] at hD1
  go_wp2
  go_loopw [9] (fun i wr => ∃ j : Nat, i = .int .i64 j ∧ j ≤ k ∧ DoorAt wr d bm (2 * j) k S (stA T S k j) ∧ Below w.heap.size w wr) (fun i _ => 20 - natV i)
  case atStart => exact ⟨0, rfl, Nat.zero_le _, hD1, hB1⟩
  case round =>
    clear hD1 hB1
    obtain ⟨j, rfl, hj, hD, hB⟩ := hrel
    by_cases hlt : j < k
    · have hlz : (j : Int) < (k : Int) := by omega
      have htr := stA_tr (t := T) (s := S) hlt
      have hask : ask (stA T S k j) ann T = 0 := ask_NI h3 (by rw [htr])
      have A1 := fun w h => ask_any d bm (2 * j) k S (stA T S k j) ann ann_len T w h
      have F1 := fun w h => fail_ok d bm (2 * j) k S (stA T S k j) ann ann_small (by omega) T hask (by rw [htr]; show (0 : Int) ≤ (j : Int); omega) (by rw [htr]; show (j : Int) < _; omega) w h
      rw [hask] at A1
      rw [stA_fail hlt] at F1
      clear hask htr
      go_upto_region 12 with (first
        | (go_at_call 15; refine (A1 _ hD).mono ?_; rintro e w2 ⟨rfl, hb2⟩; have hD2 := hD.below hb2; have hB2 := hB.trans (hb2.mono hB.size))
        | (go_at_call 11; refine (F1 _ hD2).mono ?_; rintro e w3 ⟨rfl, hD3, hk3⟩; have hB3 : Below w.heap.size w w3 := hB2.trans (hk3.below hB2.size (fun q e => by subst e; exact Hbm.out))))
      clear A1 F1 hD hB hD2 hB2 hb2 hk3
      by_cases hjn : j < n
      · have hjz : (j : Int) < (n : Int) := by omega
        obtain ⟨b, off, rfl, hcell⟩ := (hR.carry hB3).flat (by omega)
        have hcj := hcell j hjn
        have hxl : (ss.getD j ⟨#[]⟩).size ≤ maxLen := hR.small _ (getD_mem' (by rw [hR.len]; exact hjn))
        generalize ss.getD j ⟨#[]⟩ = x at hcj hxl
        clear hcell
        by_cases hx : x = ann
        · have hq : (x.toList == [97, 110, 110]) = true := by rw [hx, Lib.toList_data]; rfl
          clear hx
          go_wp2
          go_roundw
          case rel => exact ⟨j + 1, by go_num, by omega, hD3.mono (by omega), hB3⟩
          case measure => simp [natV]; omega
        · have hq : (x.toList == [97, 110, 110]) = false := ann_ne hx
          have hpz : kp (0, (tr (stA T S k (j + 1)) x).2) = none := by rw [stA_otr hx]; exact kp_NI
          have P1 := fun w h => pass_any d bm (2 * j + 1) k S (stA T S k (j + 1)) x hxl (Or.inl hpz) (by omega) w h
          rw [stA_pass hx] at P1
          have hne : b ≠ bm := fun e => by
            subst e
            have := World.block_lt_of_cell? w _ (hR.cells _ rfl j hjn)
            have e2 : (Addr.add ⟨b, off, none⟩ j).block = b := by rw [add_flat]
            rw [e2] at this
            have := Hbm.out
            omega
          clear hpz
          go_wp2_with (first
            | (go_at_call 13; refine (P1 _ hD3).mono ?_; rintro e w4 ⟨rfl, hD4, hk4⟩; have hcj4 := hk4.cell hcj hne; have hB4 : Below w.heap.size w w4 := hB3.trans (hk4.below hB3.size (fun q e => by subst e; exact Hbm.out)))
            | (go_at_call 15; refine (ask_any d bm (2 * j + 2) k S (stA T S k (j + 1)) x hxl T _ hD4).mono ?_; rintro e w5 ⟨rfl, hb5⟩; have hD5 := hD4.below hb5; have hB5 := hB4.trans (hb5.mono hB4.size)))
          go_roundw
          case rel => exact ⟨j + 1, by go_num, by omega, hD5.mono (by omega), hB5⟩
          case measure => simp [natV]; omega
      · have hjz : ¬ (j : Int) < (n : Int) := by omega
        go_wp2
        go_roundw
        case rel => exact ⟨j + 1, by go_num, by omega, hD3.mono (by omega), hB3⟩
        case measure => simp [natV]; omega
    · obtain rfl : j = k := by omega
      have hlz : ¬ (j : Int) < (j : Int) := by omega
      have hW := wakes_any
      have hen := stA_end T S j hk1
      go_upto_region 16 with (first
        | (refine wp_fadd rfl _ _ _ _ rfl T S rfl rfl ?_; intro r q hsum))
      have hDq : DoorAt (wr.drewN q) d bm (2 * j) j S (stA T S j j) := hD.keep (S := fun _ => False) ((Keep.refl _ _).drewN q) (fun h => h) (fun h => h)
      have hBq : Below w.heap.size w (wr.drewN q) := hB.trans (((Keep.refl (fun _ => False) wr).drewN q).below hB.size (fun _ h => h.elim))
      obtain ⟨l1, l2⟩ := lock_end hsum
      rw [← hen] at l1 l2
      have A1 := fun w h => ask_any d bm (2 * j) j S (stA T S j j) ann ann_len T w h
      have A2 := fun w h => ask_any d bm (2 * j) j S (stA T S j j) bob bob_len T w h
      have A3 := fun w h => ask_any d bm (2 * j) j S (stA T S j j) ann ann_len r w h
      have a1 : ask (stA T S j j) ann T = if flt T r = true then 12 else 0 := by unfold ask; rw [h3, l1]; rfl
      have a2 : ask (stA T S j j) bob T = 0 := ask_NI h3 (by rw [stA_otr bob_ann])
      have hrr := nan_neq r
      have hlt2 := f64_lt T r
      clear hen hsum hD hB
      generalize wr.drewN q = wq at hDq hBq ⊢
      rw [a2] at A2
      rw [a1] at A1
      replace A1 := A1 wq hDq
      clear a1 a2 l1 hR hlt hlz hj hnn
      cases hnr : Fl.nan r with
      | true =>
        have hf : flt T r = false := flt_nan hnr
        rw [hf] at A1 hlt2
        rw [hnr] at hrr
        rw [if_neg (by decide)] at A1
        clear A3 l2 hf hnr
        go_wp2_with (first
          | (go_at_call 15; refine A1.mono ?_; clear A1; rintro e w5 ⟨rfl, hb5⟩; have hD5 := hDq.below hb5; have hB5 := hBq.trans (hb5.mono hBq.size); replace A2 := A2 w5 hD5)
          | (go_at_call 15; refine A2.mono ?_; clear A2; rintro e w6 ⟨rfl, hb6⟩; have hD6 := hD5.below hb6; have hB6 := hB5.trans (hb6.mono hB5.size))
          | (go_at_call 9; refine (hW _).mono ?_; rintro e w8 ⟨rfl, hb8⟩; have hB8 := hB6.trans (hb8.mono hB6.size)))
        go_ret
        exact ⟨rfl, hB8⟩
      | false =>
        have a3 : ask (stA T S j j) ann r = 0 := by unfold ask; rw [hnr, l2]; rfl
        rw [a3] at A3
        rw [hnr] at hrr
        clear a3 l2
        cases hf : flt T r with
        | true =>
          rw [hf] at A1 hlt2
          rw [if_pos rfl] at A1
          clear hf hnr
          go_wp2_with (first
            | (go_at_call 15; refine A1.mono ?_; clear A1; rintro e w5 ⟨rfl, hb5⟩; have hD5 := hDq.below hb5; have hB5 := hBq.trans (hb5.mono hBq.size); replace A2 := A2 w5 hD5)
            | (go_at_call 15; refine A2.mono ?_; clear A2; rintro e w6 ⟨rfl, hb6⟩; have hD6 := hD5.below hb6; have hB6 := hB5.trans (hb6.mono hB5.size))
            | (go_at_call 15; refine (A3 _ hD6).mono ?_; rintro e w7 ⟨rfl, hb7⟩; have hB7 := hB6.trans (hb7.mono hB6.size))
            | (go_at_call 9; refine (hW _).mono ?_; rintro e w8 ⟨rfl, hb8⟩; have hB8 := hB7.trans (hb8.mono hB7.size)))
          go_ret
          exact ⟨rfl, hB8⟩
        | false =>
          rw [hf] at A1 hlt2
          rw [if_neg (by decide)] at A1
          clear hf hnr
          go_wp2_with (first
            | (go_at_call 15; refine A1.mono ?_; clear A1; rintro e w5 ⟨rfl, hb5⟩; have hD5 := hDq.below hb5; have hB5 := hBq.trans (hb5.mono hBq.size); replace A2 := A2 w5 hD5)
            | (go_at_call 15; refine A2.mono ?_; clear A2; rintro e w6 ⟨rfl, hb6⟩; have hD6 := hD5.below hb6; have hB6 := hB5.trans (hb6.mono hB5.size))
            | (go_at_call 15; refine (A3 _ hD6).mono ?_; rintro e w7 ⟨rfl, hb7⟩; have hB7 := hB6.trans (hb7.mono hB6.size))
            | (go_at_call 9; refine (hW _).mono ?_; rintro e w8 ⟨rfl, hb8⟩; have hB8 := hB7.trans (hb8.mono hB7.size)))
          go_ret
          exact ⟨rfl, hB8⟩

theorem apart_all (M : Int) (S T : Nat) (a : Option Addr) (n c : Nat) (ss : List ByteArray) (w : World) (hR : SRd w a n c ss) :
    Calls Try.prog 4 #[.agg #[.int .i64 M, .int .u64 S, .int .u64 T, .slice a n c]] w fun e w' => e = .returned (.bool true) ∧ Below w.heap.size w w' := by
  cases h1 : Fl.nan S with
  | true => exact apart_early M S T a n c w (Or.inl (Or.inl h1))
  | false =>
    cases h2 : flt S 0 with
    | true => exact apart_early M S T a n c w (Or.inl (Or.inr h2))
    | false =>
      cases h3 : Fl.nan T with
      | true => exact apart_early M S T a n c w (Or.inr ⟨⟨h1, h2⟩, h3⟩)
      | false => exact apart_any M S T a n c ss w hR h1 h2 h3

end Go.Proofs.Ytiidjdedeenijaa
