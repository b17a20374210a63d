/- The door: New, Ask, Fail, Pass. -/
import Derived.Test.YtiidjdedeenijaaDrA
namespace Go.Proofs.Ytiidjdedeenijaa
open Go.RowKit

theorem keep_any (d bm n : Nat) (most : Int) (sec : Nat) (m : ByteArray → Option Tr) (s : ByteArray) (hs : s.size ≤ maxLen) (t : Tr) (h2 : kp t = none ∨ s.size ≤ 281474976710656) (hn : n < 1000000) (w : World) (hD : DoorAt w d bm n most sec m) :
    Calls Try.prog 20 #[.pointer (some ⟨d, 0, none⟩), .string s, .agg #[.int .i64 t.1, .float .f64 t.2]] w fun e w' => e = .returned (.tuple #[]) ∧ DoorAt w' d bm (n + 1) most sec (mput m s (kp t)) ∧ Keep (fun k => k = bm) w w' := by
  obtain ⟨c, u⟩ := t
  by_cases hk : c = 0 ∧ flt NI u = false
  · have e : kp (c, u) = none := by unfold kp; rw [if_pos hk]
    obtain ⟨rfl, hu⟩ := hk
    rw [e]
    refine (keep_none d bm n most sec m s hs u hu w hD).mono ?_
    rintro e w' ⟨h1, h2, h3⟩
    exact ⟨h1, h2.mono (Nat.le_succ n), h3⟩
  · have e : kp (c, u) = some (c, u) := by unfold kp; rw [if_neg hk]
    rw [e] at h2 ⊢
    exact keep_some d bm n most sec m s (h2.resolve_left (by simp)) hn c u e w hD

theorem field_until (c : Int) (u : Nat) (w : World) : (Instr.field 56 (.agg #[.int .i64 c, .float .f64 u]) 1).run Try.prog w = .ok (.float .f64 u) w := by kernel_rfl

/-- What Ask answers. -/
def ask (m : ByteArray → Option Tr) (s : ByteArray) (now : Nat) : Int := if Fl.nan now then 1 else if flt now (tr m s).2 then 12 else 0

set_option maxHeartbeats 1000000 in
theorem ask_any (d bm n : Nat) (most : Int) (sec : Nat) (m : ByteArray → Option Tr) (s : ByteArray) (hs : s.size ≤ maxLen) (now : Nat) (w : World) (hD : DoorAt w d bm n most sec m) :
    Calls Try.prog 15 #[.pointer (some ⟨d, 0, none⟩), .string s, .float .f64 now] w fun e w' => e = .returned (.int .i64 (ask m s now)) ∧ Below w.heap.size w w' := by
  by_cases hnan : Fl.nan now = true
  · have HE : Hid (ask m s now = 1) := by unfold Hid ask; rw [hnan]; rfl
    go_enter Try.func15, Try.ntmps15
    go_wp2_with (first
      | (go_at_call 18; refine (isNaN_any now _).mono ?_; rw [hnan]; rintro e w1 ⟨rfl, rfl⟩))
    go_ret
    exact ⟨by rw [HE.out]; rfl, Below.refl _ _⟩
  · have hnan' : Fl.nan now = false := by simpa using hnan
    clear hnan
    have hlt := f64_lt now (tr m s).2
    have hfd := fun w => field_until (tr m s).1 (tr m s).2 w
    by_cases hl : flt now (tr m s).2 = true
    · have HE : Hid (ask m s now = 12) := by unfold Hid ask; rw [hnan', hl]; rfl
      rw [hl] at hlt
      clear hl
      go_enter Try.func15, Try.ntmps15
      go_wp2_with (first
        | (go_at_call 18; refine (isNaN_any now _).mono ?_; rw [hnan']; rintro e w1 ⟨rfl, rfl⟩)
        | (go_at_call 19; refine (of_any d bm n most sec m s hs _ hD).mono ?_; rintro e w2 ⟨rfl, hb2⟩))
      go_ret
      exact ⟨by rw [HE.out]; rfl, hb2⟩
    · have hl' : flt now (tr m s).2 = false := by simpa using hl
      have HE : Hid (ask m s now = 0) := by unfold Hid ask; rw [hnan', hl']; rfl
      rw [hl'] at hlt
      clear hl hl'
      go_enter Try.func15, Try.ntmps15
      go_wp2_with (first
        | (go_at_call 18; refine (isNaN_any now _).mono ?_; rw [hnan']; rintro e w1 ⟨rfl, rfl⟩)
        | (go_at_call 19; refine (of_any d bm n most sec m s hs _ hD).mono ?_; rintro e w2 ⟨rfl, hb2⟩))
      go_ret
      exact ⟨by rw [HE.out]; rfl, hb2⟩

/-- What a lock leaves. -/
def lock (now sec : Nat) : Option Tr := match Ieee.double.add now sec with | some r => kp (0, r) | none => none
theorem lock_of {now sec r : Nat} (h : IsSum now sec r) : kp (0, r) = lock now sec := by
  unfold lock
  rcases h with h | ⟨h, hn⟩
  · rw [h]
  · rw [h]
    unfold kp
    rw [if_pos ⟨rfl, flt_nan hn⟩]

/-- What Fail leaves, where Ask refuses nothing. -/
def failM (m : ByteArray → Option Tr) (s : ByteArray) (now : Nat) (most : Int) (sec : Nat) : ByteArray → Option Tr :=
  mput m s (if (tr m s).1 + 1 = most then lock now sec else kp ((tr m s).1 + 1, (tr m s).2))

set_option maxHeartbeats 1000000 in
theorem fail_bad (d bm n : Nat) (most : Int) (sec : Nat) (m : ByteArray → Option Tr) (s : ByteArray) (hs : s.size ≤ maxLen) (now : Nat) (ha : ask m s now ≠ 0) (w : World) (hD : DoorAt w d bm n most sec m) :
    Calls Try.prog 11 #[.pointer (some ⟨d, 0, none⟩), .string s, .float .f64 now] w fun e w' => e = .returned (.int .i64 (ask m s now)) ∧ Below w.heap.size w w' := by
  have hne : (ask m s now != 0) = true := by simpa using ha
  clear ha
  go_enter Try.func11, Try.ntmps11
  go_wp2_with (first
    | (go_at_call 15; refine (ask_any d bm n most sec m s hs now _ hD).mono ?_; rintro e w1 ⟨rfl, hb1⟩))
  go_ret
  exact ⟨rfl, hb1⟩

set_option maxHeartbeats 2000000 in
theorem fail_ok (d bm n : Nat) (most : Int) (sec : Nat) (m : ByteArray → Option Tr) (s : ByteArray) (hs : s.size ≤ 281474976710656) (hn : n < 1000000) (now : Nat) (ha : ask m s now = 0) (hc0 : 0 ≤ (tr m s).1) (hc1 : (tr m s).1 < 9223372036854775807) (w : World) (hD : DoorAt w d bm n most sec m) :
    Calls Try.prog 11 #[.pointer (some ⟨d, 0, none⟩), .string s, .float .f64 now] w fun e w' => e = .returned (.int .i64 0) ∧ DoorAt w' d bm (n + 1) most sec (failM m s now most sec) ∧ Keep (fun k => k = bm) w w' := by
  have hmax : s.size ≤ maxLen := by unfold maxLen; omega
  have hsf := run_store_float
  have hA := ask_any d bm n most sec m s hmax now w hD
  have hO := fun w => of_any d bm n most sec m s hmax w
  rw [ha] at hA
  unfold failM
  generalize tr m s = t at *
  obtain ⟨c, u⟩ := t
  dsimp only at hc0 hc1 hO ⊢
  by_cases hm : c + 1 = most
  · rw [if_pos hm]
    go_enter Try.func11, Try.ntmps11
    go_upto_region 6 with (first
      | (go_at_call 15; refine hA.mono ?_; rintro e w1 ⟨rfl, hb1⟩; have hD1 := hD.below hb1)
      | (go_at_call 19; refine (hO _ hD1).mono ?_; rintro e w2 ⟨rfl, hb2⟩; have hD2 := hD1.below hb2))
    have q0 := (hD2.alloc (Obj.cells #[.int .i64 most, .float .f64 u] 56)).c0
    go_quiet (fail)
    have hD3 : DoorAt ((w2.alloc (Obj.cells #[.int .i64 most, .float .f64 u] 56)).drewN nq) d bm n most sec m := (hD2.alloc _).keep (S := fun _ => False) ((Keep.refl _ _).drewN nq) (fun h => h) (fun h => h)
    have q1 := hD3.c1
    go_upto_region 8 with (first
      | (refine wp_fadd rfl _ _ _ _ rfl now sec rfl rfl ?_; intro r k hsum))
    have hk2 : Keep (fun k => k = bm) w w2 := (Keep.ofBelow hb1).trans (Keep.ofBelow hb2)
    have hkW : Keep (fun _ => False) w2 ((((w2.alloc (Obj.cells #[.int .i64 most, .float .f64 u] 56)).drewN (nq + k)).setCell ⟨w2.heap.size, 0, none⟩ (.int .i64 0)).setCell ⟨w2.heap.size, 1, none⟩ (.float .f64 r)) := ((((Keep.refl _ _).alloc _).drewN _).setNew (Nat.le_refl _) _).setNew (Nat.le_refl _) _
    have hDW := hD2.keep hkW (fun h => h) (fun h => h)
    have HL := lock_of hsum
    go_wp2_with (first
      | (go_at_call 20; refine (keep_any d bm n most sec m s hmax (0, r) (Or.inr hs) hn _ hDW).mono ?_; rintro e w4 ⟨rfl, hD4, hk4⟩))
    go_ret
    rw [HL] at hD4
    exact ⟨rfl, hD4, hk2.trans ((hkW.mono (fun _ h => h.elim)).trans hk4)⟩
  · rw [if_neg hm]
    have hne : (c + 1 == most) = false := by simpa using hm
    have hwr : wrap64 (c + 1) = c + 1 := by unfold wrap64; omega
    clear hm
    go_enter Try.func11, Try.ntmps11
    go_upto_region 6 with (first
      | (go_at_call 15; refine hA.mono ?_; rintro e w1 ⟨rfl, hb1⟩; have hD1 := hD.below hb1)
      | (go_at_call 19; refine (hO _ hD1).mono ?_; rintro e w2 ⟨rfl, hb2⟩; have hD2 := hD1.below hb2))
    have q0 := (hD2.alloc (Obj.cells #[.int .i64 (c + 1), .float .f64 u] 56)).c0
    go_quiet (fail)
    have hk2 : Keep (fun k => k = bm) w w2 := (Keep.ofBelow hb1).trans (Keep.ofBelow hb2)
    have hkW : Keep (fun _ => False) w2 ((w2.alloc (Obj.cells #[.int .i64 (c + 1), .float .f64 u] 56)).drewN nq) := ((Keep.refl _ _).alloc _).drewN _
    have hDW := hD2.keep hkW (fun h => h) (fun h => h)
    go_wp2_with (first
      | (go_at_call 20; refine (keep_any d bm n most sec m s hmax (c + 1, u) (Or.inr hs) hn _ hDW).mono ?_; rintro e w4 ⟨rfl, hD4, hk4⟩))
    go_ret
    exact ⟨rfl, hD4, hk2.trans ((hkW.mono (fun _ h => h.elim)).trans hk4)⟩

/-- What Pass leaves. -/
def passM (m : ByteArray → Option Tr) (s : ByteArray) : ByteArray → Option Tr := mput m s (kp (0, (tr m s).2))

set_option maxHeartbeats 1000000 in
theorem pass_any (d bm n : Nat) (most : Int) (sec : Nat) (m : ByteArray → Option Tr) (s : ByteArray) (hs : s.size ≤ maxLen) (h2 : kp (0, (tr m s).2) = none ∨ s.size ≤ 281474976710656) (hn : n < 1000000) (w : World) (hD : DoorAt w d bm n most sec m) :
    Calls Try.prog 13 #[.pointer (some ⟨d, 0, none⟩), .string s] w fun e w' => e = .returned (.tuple #[]) ∧ DoorAt w' d bm (n + 1) most sec (passM m s) ∧ Keep (fun k => k = bm) w w' := by
  have hsf := run_store_float
  have hO := fun w => of_any d bm n most sec m s hs w
  unfold passM
  generalize tr m s = t at *
  obtain ⟨c, u⟩ := t
  dsimp only at h2 hO ⊢
  go_enter Try.func13, Try.ntmps13
  go_wp2_with (first
    | (go_at_call 19; refine (hO _ hD).mono ?_; rintro e w2 ⟨rfl, hb2⟩; have hD2 := hD.below hb2)
    | (go_at_call 20; refine (keep_any d bm n most sec m s hs (0, u) h2 hn _ (hD2.alloc _)).mono ?_; rintro e w4 ⟨rfl, hD4, hk4⟩))
  go_end0
  exact ⟨rfl, hD4, (Keep.ofBelow hb2).trans (((Keep.refl _ _).alloc _).trans hk4)⟩

set_option maxHeartbeats 1000000 in
theorem new_ok (most : Int) (sec : Nat) (h1 : 1 ≤ most) (h2 : Fl.nan sec = false) (h3 : flt sec 0 = false) (w : World) :
    Calls Try.prog 7 #[.int .i64 most, .float .f64 sec] w fun e w' => ∃ d bm, e = .returned (.tuple #[.pointer (some ⟨d, 0, none⟩), .int .i64 0]) ∧ DoorAt w' d bm 0 most sec (fun _ => none) ∧ w.heap.size ≤ d ∧ w.heap.size ≤ bm ∧ Below w.heap.size w w' := by
  have hlt := f64_lt sec 0
  rw [h3] at hlt
  have hmk := fun w : World => run_makeMap (P := Try.prog) 48 w
  go_enter Try.func7, Try.ntmps7
  go_wp2_with (first
    | (go_at_call 18; refine (isNaN_any sec _).mono ?_; rw [h2]; rintro e w1 ⟨rfl, rfl⟩))
  go_ret2
  refine ⟨w1.heap.size + 1, w1.heap.size, rfl, ⟨?_, ?_, ?_, ?_⟩, by omega, Nat.le_refl _, ?_⟩
  · exact World.cell?_alloc_at _ _ _ 0 (by simp)
  · exact World.cell?_alloc_at _ _ _ 1 (by simp)
  · exact World.cell?_alloc_at _ _ _ 2 (by simp)
  · exact (MapAt.made w1).keep (S := fun _ => False) ((Keep.refl _ _).alloc _) (fun h => h)
  · exact (((Keep.refl (fun _ => False) _).alloc _).alloc _).below (Nat.le_refl _) (fun _ h => h.elim)

set_option maxHeartbeats 1000000 in
theorem new_bad (most : Int) (sec : Nat) (h : most < 1 ∨ Fl.nan sec = true ∨ flt sec 0 = true) (w : World) :
    Calls Try.prog 7 #[.int .i64 most, .float .f64 sec] w fun e w' => e = .returned (.tuple #[.pointer none, .int .i64 1]) ∧ w' = w := by
  have hlt := f64_lt sec 0
  have hN := fun w => isNaN_any sec w
  by_cases h1 : most < 1
  · clear h hlt hN
    go_enter Try.func7, Try.ntmps7
    go_wp2
    go_ret2
    exact ⟨rfl, rfl⟩
  · cases h2 : Fl.nan sec with
    | true =>
      rw [h2] at hN
      clear h hlt
      go_enter Try.func7, Try.ntmps7
      go_wp2_with (first
        | (go_at_call 18; refine (hN _).mono ?_; rintro e w1 ⟨rfl, rfl⟩))
      go_ret2
      exact ⟨rfl, rfl⟩
    | false =>
      have h3 : flt sec 0 = true := by
        rcases h with h | h | h
        · exact absurd h h1
        · rw [h2] at h; cases h
        · exact h
      rw [h2] at hN
      rw [h3] at hlt
      clear h h3
      go_enter Try.func7, Try.ntmps7
      go_wp2_with (first
        | (go_at_call 18; refine (hN _).mono ?_; rintro e w1 ⟨rfl, rfl⟩))
      go_ret2
      exact ⟨rfl, rfl⟩

end Go.Proofs.Ytiidjdedeenijaa
