/- The door: New, Ask, Fail, Pass. -/
import Derived.Test.YtiidjdedeenijaaDoorDrA
set_option maxRecDepth 100000
namespace Go.Proofs.YtiidjdedeenijaaDoor
open Go.RowKit

theorem keep_any (d bm n : Nat) (most : Int) (sec : Nat) (m : ByteArray → Option Tr) (s : ByteArray) (hs : s.size ≤ maxLen) (t : Tr) (h2 : kp t = none ∨ s.size ≤ 281474976710656) (hn : n < 1000000) (w : World) (hD : DoorAt w d bm n most sec m) :
    Calls Tryd.prog 53 #[.pointer (some ⟨d, 0, none⟩), .string s, .agg #[.int .i64 t.1, .float .f64 t.2]] w fun e w' => e = .returned (.tuple #[]) ∧ DoorAt w' d bm (n + 1) most sec (mput m s (kp t)) ∧ Keep (fun k => k = bm) w w' := by
  obtain ⟨c, u⟩ := t
  by_cases hk : c = 0 ∧ flt NI u = false
  · have e : kp (c, u) = none := by unfold kp; rw [if_pos hk]
    obtain ⟨rfl, hu⟩ := hk
    rw [e]
    refine (keep_none d bm n most sec m s hs u hu w hD).mono ?_
    rintro e w' ⟨h1, h2, h3⟩
    exact ⟨h1, h2.mono (Nat.le_succ n), h3⟩
  · have e : kp (c, u) = some (c, u) := by unfold kp; rw [if_neg hk]
    rw [e] at h2 ⊢
    exact keep_some d bm n most sec m s (h2.resolve_left (by simp)) hn c u e w hD

theorem field_until (c : Int) (u : Nat) (w : World) : (Instr.field 92 (.agg #[.int .i64 c, .float .f64 u]) 1).run Tryd.prog w = .ok (.float .f64 u) w := by kernel_rfl

/-- What Ask answers. -/
def ask (m : ByteArray → Option Tr) (s : ByteArray) (now : Nat) : Int := if Fl.nan now then 1 else if flt now (dtr m s).2 then 12 else 0

set_option maxHeartbeats 1000000 in
theorem ask_any (d bm n : Nat) (most : Int) (sec : Nat) (m : ByteArray → Option Tr) (s : ByteArray) (hs : s.size ≤ maxLen) (now : Nat) (w : World) (hD : DoorAt w d bm n most sec m) :
    Calls Tryd.prog 29 #[.pointer (some ⟨d, 0, none⟩), .string s, .float .f64 now] w fun e w' => e = .returned (.int .i64 (ask m s now)) ∧ Below w.heap.size w w' := by
  by_cases hnan : Fl.nan now = true
  · have HE : Hid (ask m s now = 1) := by unfold Hid ask; rw [hnan]; rfl
    go_enter Tryd.func29, Tryd.ntmps29
    go_wp2_with (first
      | (go_at_call 51; refine (isNaN_any now _).mono ?_; rw [hnan]; rintro e w1 ⟨rfl, rfl⟩))
    go_ret
    exact ⟨by rw [HE.out]; rfl, Below.refl _ _⟩
  · have hnan' : Fl.nan now = false := by simpa using hnan
    clear hnan
    have hlt := f64_lt now (dtr m s).2
    have hfd := fun w => field_until (dtr m s).1 (dtr m s).2 w
    by_cases hl : flt now (dtr m s).2 = true
    · have HE : Hid (ask m s now = 12) := by unfold Hid ask; rw [hnan', hl]; rfl
      rw [hl] at hlt
      clear hl
      go_enter Tryd.func29, Tryd.ntmps29
      go_wp2_with (first
        | (go_at_call 51; refine (isNaN_any now _).mono ?_; rw [hnan']; rintro e w1 ⟨rfl, rfl⟩)
        | (go_at_call 52; refine (of_any d bm n most sec m s hs _ hD).mono ?_; rintro e w2 ⟨rfl, hb2⟩))
      go_ret
      exact ⟨by rw [HE.out]; rfl, hb2⟩
    · have hl' : flt now (dtr m s).2 = false := by simpa using hl
      have HE : Hid (ask m s now = 0) := by unfold Hid ask; rw [hnan', hl']; rfl
      rw [hl'] at hlt
      clear hl hl'
      go_enter Tryd.func29, Tryd.ntmps29
      go_wp2_with (first
        | (go_at_call 51; refine (isNaN_any now _).mono ?_; rw [hnan']; rintro e w1 ⟨rfl, rfl⟩)
        | (go_at_call 52; refine (of_any d bm n most sec m s hs _ hD).mono ?_; rintro e w2 ⟨rfl, hb2⟩))
      go_ret
      exact ⟨by rw [HE.out]; rfl, hb2⟩

/-- What a lock leaves. -/
def lock (now sec : Nat) : Option Tr := match Ieee.double.add now sec with | some r => kp (0, r) | none => none
theorem lock_of {now sec r : Nat} (h : IsSum now sec r) : kp (0, r) = lock now sec := by
  unfold lock
  rcases h with h | ⟨h, hn⟩
  · rw [h]
  · rw [h]
    unfold kp
    rw [if_pos ⟨rfl, flt_nan hn⟩]

/-- What Fail leaves, where Ask refuses nothing. -/
def failM (m : ByteArray → Option Tr) (s : ByteArray) (now : Nat) (most : Int) (sec : Nat) : ByteArray → Option Tr :=
  mput m s (if (dtr m s).1 + 1 = most then lock now sec else kp ((dtr m s).1 + 1, (dtr m s).2))

set_option maxHeartbeats 1000000 in
theorem fail_bad (d bm n : Nat) (most : Int) (sec : Nat) (m : ByteArray → Option Tr) (s : ByteArray) (hs : s.size ≤ maxLen) (now : Nat) (ha : ask m s now ≠ 0) (w : World) (hD : DoorAt w d bm n most sec m) :
    Calls Tryd.prog 28 #[.pointer (some ⟨d, 0, none⟩), .string s, .float .f64 now] w fun e w' => e = .returned (.int .i64 (ask m s now)) ∧ Below w.heap.size w w' := by
  have hne : (ask m s now != 0) = true := by simpa using ha
  clear ha
  go_enter Tryd.func28, Tryd.ntmps28
  go_wp2_with (first
    | (go_at_call 29; refine (ask_any d bm n most sec m s hs now _ hD).mono ?_; rintro e w1 ⟨rfl, hb1⟩))
  go_ret
  exact ⟨rfl, hb1⟩

set_option maxHeartbeats 2000000 in
theorem fail_ok (d bm n : Nat) (most : Int) (sec : Nat) (m : ByteArray → Option Tr) (s : ByteArray) (hs : s.size ≤ 281474976710656) (hn : n < 1000000) (now : Nat) (ha : ask m s now = 0) (hc0 : 0 ≤ (dtr m s).1) (hc1 : (dtr m s).1 < 9223372036854775807) (w : World) (hD : DoorAt w d bm n most sec m) :
    Calls Tryd.prog 28 #[.pointer (some ⟨d, 0, none⟩), .string s, .float .f64 now] w fun e w' => e = .returned (.int .i64 0) ∧ DoorAt w' d bm (n + 1) most sec (failM m s now most sec) ∧ Keep (fun k => k = bm) w w' := by
  have hmax : s.size ≤ maxLen := by unfold maxLen; omega
  have hsf := run_store_float
  have hA := ask_any d bm n most sec m s hmax now w hD
  have hO := fun w => of_any d bm n most sec m s hmax w
  rw [ha] at hA
  unfold failM
  generalize dtr m s = t at *
  obtain ⟨c, u⟩ := t
  dsimp only at hc0 hc1 hO ⊢
  by_cases hm : c + 1 = most
  · rw [if_pos hm]
    go_enter Tryd.func28, Tryd.ntmps28
    go_upto_region 6 with (first
      | (go_at_call 29; refine hA.mono ?_; rintro e w1 ⟨rfl, hb1⟩; have hD1 := hD.below hb1)
      | (go_at_call 52; refine (hO _ hD1).mono ?_; rintro e w2 ⟨rfl, hb2⟩; have hD2 := hD1.below hb2))
    have q0 := (hD2.alloc (Obj.cells #[.int .i64 most, .float .f64 u] 92)).c0
    go_quiet (fail)
    have hD3 : DoorAt ((w2.alloc (Obj.cells #[.int .i64 most, .float .f64 u] 92)).drewN nq) d bm n most sec m := (hD2.alloc _).keep (S := fun _ => False) ((Keep.refl _ _).drewN nq) (fun h => h) (fun h => h)
    have q1 := hD3.c1
    go_upto_region 8 with (first
      | (refine wp_fadd rfl _ _ _ _ rfl now sec rfl rfl ?_; intro r k hsum))
    have hk2 : Keep (fun k => k = bm) w w2 := (Keep.ofBelow hb1).trans (Keep.ofBelow hb2)
    have hkW : Keep (fun _ => False) w2 ((((w2.alloc (Obj.cells #[.int .i64 most, .float .f64 u] 92)).drewN (nq + k)).setCell ⟨w2.heap.size, 0, none⟩ (.int .i64 0)).setCell ⟨w2.heap.size, 1, none⟩ (.float .f64 r)) := ((((Keep.refl _ _).alloc _).drewN _).setNew (Nat.le_refl _) _).setNew (Nat.le_refl _) _
    have hDW := hD2.keep hkW (fun h => h) (fun h => h)
    have HL := lock_of hsum
    go_wp2_with (first
      | (go_at_call 53; refine (keep_any d bm n most sec m s hmax (0, r) (Or.inr hs) hn _ hDW).mono ?_; rintro e w4 ⟨rfl, hD4, hk4⟩))
    go_ret
    rw [HL] at hD4
    exact ⟨rfl, hD4, hk2.trans ((hkW.mono (fun _ h => h.elim)).trans hk4)⟩
  · rw [if_neg hm]
    have hne : (c + 1 == most) = false := by simpa using hm
    have hwr : wrap64 (c + 1) = c + 1 := by unfold wrap64; omega
    clear hm
    go_enter Tryd.func28, Tryd.ntmps28
    go_upto_region 6 with (first
      | (go_at_call 29; refine hA.mono ?_; rintro e w1 ⟨rfl, hb1⟩; have hD1 := hD.below hb1)
      | (go_at_call 52; refine (hO _ hD1).mono ?_; rintro e w2 ⟨rfl, hb2⟩; have hD2 := hD1.below hb2))
    have q0 := (hD2.alloc (Obj.cells #[.int .i64 (c + 1), .float .f64 u] 92)).c0
    go_quiet (fail)
    have hk2 : Keep (fun k => k = bm) w w2 := (Keep.ofBelow hb1).trans (Keep.ofBelow hb2)
    have hkW : Keep (fun _ => False) w2 ((w2.alloc (Obj.cells #[.int .i64 (c + 1), .float .f64 u] 92)).drewN nq) := ((Keep.refl _ _).alloc _).drewN _
    have hDW := hD2.keep hkW (fun h => h) (fun h => h)
    go_wp2_with (first
      | (go_at_call 53; refine (keep_any d bm n most sec m s hmax (c + 1, u) (Or.inr hs) hn _ hDW).mono ?_; rintro e w4 ⟨rfl, hD4, hk4⟩))
    go_ret
    exact ⟨rfl, hD4, hk2.trans ((hkW.mono (fun _ h => h.elim)).trans hk4)⟩

/-- What Pass leaves. -/
def passM (m : ByteArray → Option Tr) (s : ByteArray) : ByteArray → Option Tr := mput m s (kp (0, (dtr m s).2))

set_option maxHeartbeats 1000000 in
theorem new_ok (most : Int) (sec : Nat) (h1 : 1 ≤ most) (h2 : Fl.nan sec = false) (h3 : flt sec 0 = false) (w : World) :
    Calls Tryd.prog 27 #[.int .i64 most, .float .f64 sec] w fun e w' => ∃ d bm, e = .returned (.tuple #[.pointer (some ⟨d, 0, none⟩), .int .i64 0]) ∧ DoorAt w' d bm 0 most sec (fun _ => none) ∧ w.heap.size ≤ d ∧ w.heap.size ≤ bm ∧ Below w.heap.size w w' := by
  have hlt := f64_lt sec 0
  rw [h3] at hlt
  have hmk := fun w : World => run_makeMap (P := Tryd.prog) 88 w
  go_enter Tryd.func27, Tryd.ntmps27
  go_wp2_with (first
    | (go_at_call 51; refine (isNaN_any sec _).mono ?_; rw [h2]; rintro e w1 ⟨rfl, rfl⟩))
  go_ret2
  refine ⟨w1.heap.size + 1, w1.heap.size, rfl, ⟨?_, ?_, ?_, ?_⟩, by omega, Nat.le_refl _, ?_⟩
  · exact World.cell?_alloc_at _ _ _ 0 (by simp)
  · exact World.cell?_alloc_at _ _ _ 1 (by simp)
  · exact World.cell?_alloc_at _ _ _ 2 (by simp)
  · exact (MapAt.made w1).keep (S := fun _ => False) ((Keep.refl _ _).alloc _) (fun h => h)
  · exact (((Keep.refl (fun _ => False) _).alloc _).alloc _).below (Nat.le_refl _) (fun _ h => h.elim)

set_option maxHeartbeats 1000000 in
theorem new_bad (most : Int) (sec : Nat) (h : most < 1 ∨ Fl.nan sec = true ∨ flt sec 0 = true) (w : World) :
    Calls Tryd.prog 27 #[.int .i64 most, .float .f64 sec] w fun e w' => e = .returned (.tuple #[.pointer none, .int .i64 1]) ∧ w' = w := by
  have hlt := f64_lt sec 0
  have hN := fun w => isNaN_any sec w
  by_cases h1 : most < 1
  · clear h hlt hN
    go_enter Tryd.func27, Tryd.ntmps27
    go_wp2
    go_ret2
    exact ⟨rfl, rfl⟩
  · cases h2 : Fl.nan sec with
    | true =>
      rw [h2] at hN
      clear h hlt
      go_enter Tryd.func27, Tryd.ntmps27
      go_wp2_with (first
        | (go_at_call 51; refine (hN _).mono ?_; rintro e w1 ⟨rfl, rfl⟩))
      go_ret2
      exact ⟨rfl, rfl⟩
    | false =>
      have h3 : flt sec 0 = true := by
        rcases h with h | h | h
        · exact absurd h h1
        · rw [h2] at h; cases h
        · exact h
      rw [h2] at hN
      rw [h3] at hlt
      clear h h3
      go_enter Tryd.func27, Tryd.ntmps27
      go_wp2_with (first
        | (go_at_call 51; refine (hN _).mono ?_; rintro e w1 ⟨rfl, rfl⟩))
      go_ret2
      exact ⟨rfl, rfl⟩

end Go.Proofs.YtiidjdedeenijaaDoor

/- The law's wakes: the document's run of a door. -/
set_option maxRecDepth 100000
namespace Go.Proofs.YtiidjdedeenijaaDoor
open Go.RowKit

theorem tr_put (m : ByteArray → Option Tr) (s : ByteArray) (t : Option Tr) : dtr (mput m s t) s = t.getD (0, NI) := by unfold dtr; rw [mput_same]
theorem tr_other (m : ByteArray → Option Tr) {u s : ByteArray} (t : Option Tr) (h : s ≠ u) : dtr (mput m u t) s = dtr m s := by unfold dtr; rw [mput_other m t h]
theorem tr_none (s : ByteArray) : dtr (fun _ => none) s = (0, NI) := rfl
theorem ask_NI {m : ByteArray → Option Tr} {s : ByteArray} {now : Nat} (h : Fl.nan now = false) (hu : (dtr m s).2 = NI) : ask m s now = 0 := by unfold ask; rw [h, hu, flt_NI]; rfl
/-- A count that is not nought is kept. -/
theorem kp_some {c : Int} {u : Nat} (h : c ≠ 0) : kp (c, u) = some (c, u) := by unfold kp; rw [if_neg (fun g => h g.1)]

set_option maxHeartbeats 2000000 in
theorem wakes_any (w : World) : Calls Tryd.prog 11 #[] w fun e w' => e = .returned (.bool true) ∧ Below w.heap.size w w' := by
  obtain ⟨sa, hsa⟩ : ∃ sa : ByteArray, sa = ⟨#[97]⟩ := ⟨_, rfl⟩
  obtain ⟨sb, hsb⟩ : ∃ sb : ByteArray, sb = ⟨#[98]⟩ := ⟨_, rfl⟩
  have hab : sb ≠ sa := by rw [hsa, hsb]; intro h; injection h with h; simp at h
  have hza : sa.size ≤ 281474976710656 := by rw [hsa]; decide
  have hma : sa.size ≤ maxLen := by rw [hsa]; decide
  have hmb : sb.size ≤ maxLen := by rw [hsb]; decide
  obtain ⟨m0, hm0⟩ : ∃ m0 : ByteArray → Option Tr, m0 = fun _ => none := ⟨_, rfl⟩
  obtain ⟨m1, hm1⟩ : ∃ m1, m1 = mput m0 sa (some (1, NI)) := ⟨_, rfl⟩
  obtain ⟨m2, hm2⟩ : ∃ m2, m2 = mput m1 sa (some (0, 4625196817309499392)) := ⟨_, rfl⟩
  have t0 : dtr m0 sa = (0, NI) := by rw [hm0]; rfl
  have t1 : dtr m1 sa = (1, NI) := by rw [hm1, tr_put]; rfl
  have t2 : dtr m2 sa = (0, 4625196817309499392) := by rw [hm2, tr_put]; rfl
  have t3 : dtr m2 sb = (0, NI) := by rw [hm2, tr_other _ _ hab, hm1, tr_other _ _ hab, hm0]; rfl
  have f1 : failM m0 sa 4617315517961601024 2 4621819117588971520 = m1 := by
    unfold failM; rw [t0, if_neg (by decide), hm1]; rw [kp_some (by decide)]; rfl
  have f2 : failM m1 sa 4618441417868443648 2 4621819117588971520 = m2 := by
    unfold failM; rw [t1, if_pos (by decide), hm2]
    have : lock 4618441417868443648 4621819117588971520 = some (0, 4625196817309499392) := by kernel_rfl
    rw [this]
  have a0 : ask m0 sa 4617315517961601024 = 0 := ask_NI (by kernel_rfl) (by rw [t0])
  have a1 : ask m1 sa 4618441417868443648 = 0 := ask_NI (by kernel_rfl) (by rw [t1])
  have a2 : ask m2 sa 4624915342332788736 = 12 := by unfold ask; rw [t2]; kernel_rfl
  have a3 : ask m2 sa 4625196817309499392 = 0 := by unfold ask; rw [t2]; kernel_rfl
  have a4 : ask m2 sb 4618441417868443648 = 0 := ask_NI (by kernel_rfl) (by rw [t3])
  have F1 := fun d bm w h => fail_ok d bm 0 2 4621819117588971520 m0 sa hza (by omega) 4617315517961601024 a0 (by rw [t0]; decide) (by rw [t0]; decide) w h
  have F2 := fun d bm w h => fail_ok d bm 1 2 4621819117588971520 m1 sa hza (by omega) 4618441417868443648 a1 (by rw [t1]; decide) (by rw [t1]; decide) w h
  rw [f1] at F1
  rw [f2] at F2
  have A2 := fun d bm w h => ask_any d bm 2 2 4621819117588971520 m2 sa hma 4624915342332788736 w h
  have A3 := fun d bm w h => ask_any d bm 2 2 4621819117588971520 m2 sa hma 4625196817309499392 w h
  have A4 := fun d bm w h => ask_any d bm 2 2 4621819117588971520 m2 sb hmb 4618441417868443648 w h
  rw [a2] at A2
  rw [a3] at A3
  rw [a4] at A4
  clear t0 t1 t2 t3 f1 f2 a0 a1 a2 a3 a4 hab hza hma hmb hm1 hm2
  subst hsa hsb hm0
  have hN := new_ok 2 4621819117588971520 (by omega) (by kernel_rfl) (by kernel_rfl) w
  go_enter Tryd.func11, Tryd.ntmps11
  go_upto_region 4 with (first
    | (go_at_call 27; refine hN.mono ?_; rintro e w1 ⟨d, bm, rfl, hD1, hd1, hb1, hB1⟩))
  go_upto_region 5 with (first
    | (go_at_call 28; refine (F1 d bm _ hD1).mono ?_; rintro e w2 ⟨rfl, hD2, hk2⟩))
  go_upto_region 6 with (first
    | (go_at_call 28; refine (F2 d bm _ hD2).mono ?_; rintro e w3 ⟨rfl, hD3, hk3⟩))
  replace A2 := A2 d bm w3 hD3
  clear F1 F2 hN
  go_wp2_with (first
    | (go_at_call 29; refine A2.mono ?_; clear A2; rintro e w4 ⟨rfl, hb4⟩; have hD4 := hD3.below hb4; replace A3 := A3 d bm w4 hD4)
    | (go_at_call 29; refine A3.mono ?_; clear A3; rintro e w5 ⟨rfl, hb5⟩; have hD5 := hD4.below hb5; replace A4 := A4 d bm w5 hD5)
    | (go_at_call 29; refine A4.mono ?_; clear A4; rintro e w6 ⟨rfl, hb6⟩))
  go_ret
  refine ⟨rfl, ?_⟩
  have k3 := hk2.trans hk3
  have B3 : Below w.heap.size w w3 := hB1.trans (k3.below hB1.size (fun k e => by subst e; exact hb1))
  have B4 := B3.trans (hb4.mono B3.size)
  have B5 := B4.trans (hb5.mono B4.size)
  exact B5.trans (hb6.mono B5.size)

end Go.Proofs.YtiidjdedeenijaaDoor
