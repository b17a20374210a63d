/- The document's door: New, Ask, Pass; a text cut. -/
import Derived.Test.YtiidjdedeenijaaDrRa
namespace Go.Proofs.Ytiidjdedeenijaa
open Go.RowKit

section
variable {w : World} {B d : Nat} {v2 v3 v4 : Value} {most : Int} {sec : Nat} {us : List ByteArray} {cs : List Int} {ts : List Nat}

theorem RD.rg (h : RD w B d v2 v3 v4 most sec us cs ts) : RG w B d v2 v3 v4 most sec us.length us.length us.length (us.map Value.string) (cs.map (Value.int .i64)) (ts.map (Value.float .f64)) := ⟨h.blk, h.o2, h.o3, h.o4, h.hd⟩

theorem RD.setc {g cap : Nat} (h : RD w B d v2 (.slice (some ⟨g, 0, none⟩) us.length cap) v4 most sec us cs ts) (i : Nat) (z : Int) :
    RD (w.setCell ⟨g, i, none⟩ (.int .i64 z)) B d v2 (.slice (some ⟨g, 0, none⟩) us.length cap) v4 most sec us (cs.set i z) ts := by
  have hk := keep_set w g i (.int .i64 z)
  have hgd : d ≠ g := fun e => own_nd h.o3 h.blk (by decide) (by rw [e]; rfl)
  refine ⟨(hk.block d h.lt hgd).trans h.blk, own_keep h.o2 hk (fun k e hg => own_ne h.o2 h.o3 (by decide) e (by rw [hg]; rfl)), ?_, own_keep h.o4 hk (fun k e hg => own_ne h.o4 h.o3 (by decide) e (by rw [hg]; rfl)), h.hd⟩
  rw [List.map_set]
  exact own_set h.o3 i _
theorem RD.sett {g cap : Nat} (h : RD w B d v2 v3 (.slice (some ⟨g, 0, none⟩) us.length cap) most sec us cs ts) (i : Nat) (z : Nat) :
    RD (w.setCell ⟨g, i, none⟩ (.float .f64 z)) B d v2 v3 (.slice (some ⟨g, 0, none⟩) us.length cap) most sec us cs (ts.set i z) := by
  have hk := keep_set w g i (.float .f64 z)
  have hgd : d ≠ g := fun e => own_nd h.o4 h.blk (by decide) (by rw [e]; rfl)
  refine ⟨(hk.block d h.lt hgd).trans h.blk, own_keep h.o2 hk (fun k e hg => own_ne h.o2 h.o4 (by decide) e (by rw [hg]; rfl)), own_keep h.o3 hk (fun k e hg => own_ne h.o3 h.o4 (by decide) e (by rw [hg]; rfl)), ?_, h.hd⟩
  rw [List.map_set]
  exact own_set h.o4 i _
/-- The rows of a door that has somebody. -/
theorem RD.rows (h : RD w B d v2 v3 v4 most sec us cs ts) {i : Nat} (hi : i < us.length) : ∃ g3 c3 g4 c4, v3 = .slice (some ⟨g3, 0, none⟩) us.length c3 ∧ v4 = .slice (some ⟨g4, 0, none⟩) us.length c4 ∧ w.cell? ⟨g3, i, none⟩ = some (.int .i64 (cs.getD i 0)) ∧ w.frozen? ⟨g3, i, none⟩ = false ∧ w.cell? ⟨g4, i, none⟩ = some (.float .f64 (ts.getD i NI)) ∧ w.frozen? ⟨g4, i, none⟩ = false ∧ g3 ≠ g4 ∧ g3 ≠ d ∧ g4 ≠ d := by
  obtain ⟨a3, c3, e3, h3⟩ := own_slice h.o3
  obtain ⟨a4, c4, e4, h4⟩ := own_slice h.o4
  have hc : i < cs.length := by rw [h.lenc]; exact hi
  have ht : i < ts.length := by rw [h.lent]; exact hi
  obtain ⟨g3, rfl, q3, z3⟩ := h3 i (.int .i64 (cs.getD i 0)) (by simp [List.getD, List.getElem?_eq_getElem hc])
  obtain ⟨g4, rfl, q4, z4⟩ := h4 i (.float .f64 (ts.getD i NI)) (by simp [List.getD, List.getElem?_eq_getElem ht])
  refine ⟨g3, c3, g4, c4, e3, e4, q3, z3, q4, z4, fun e => own_ne h.o3 h.o4 (by decide) (k := g3) (by rw [e3]; rfl) (by rw [e4, e]; rfl), fun e => own_nd h.o3 h.blk (by decide) (by rw [e3, e]; rfl), fun e => own_nd h.o4 h.blk (by decide) (by rw [e4, e]; rfl)⟩
end

/-- What a step of the document's door leaves. -/
def RStep (w w' : World) (B d : Nat) (v2 v3 v4 : Value) (most : Int) (sec : Nat) (n : Nat) (F : ByteArray → Tr) : Prop :=
  ∃ v2' v3' v4' us' cs' ts', RD w' B d v2' v3' v4' most sec us' cs' ts' ∧ (∀ x, rt us' cs' ts' x = F x) ∧ us'.length ≤ n ∧ Keep (RF d v2 v3 v4) w w' ∧ ∀ k, RF d v2' v3' v4' k → RF d v2 v3 v4 k ∨ w.heap.size ≤ k

theorem uApp_len (us : List ByteArray) (s : ByteArray) : (uApp us s).length ≤ us.length + 1 := by
  unfold uApp
  split
  · omega
  · simp

/-- What Ask answers of what is known. -/
def askT (t : Tr) (now : Nat) : Int := if Fl.nan now then 1 else if flt now t.2 then 12 else 0

set_option maxRecDepth 100000 in
set_option maxHeartbeats 1600000 in
theorem refAsk_any (B d : Nat) (v2 v3 v4 : Value) (most : Int) (sec : Nat) (us : List ByteArray) (cs : List Int) (ts : List Nat) (s : ByteArray) (now : Nat) (w : World) (hL : us.length ≤ 1000) (hBw : B ≤ w.heap.size) (hD : RD w B d v2 v3 v4 most sec us cs ts) :
    Calls Try.prog 16 #[.pointer (some ⟨d, 0, none⟩), .string s, .float .f64 now] w fun e w' => e = .returned (.int .i64 (askT (rt us cs ts s) now)) ∧ RStep w w' B d v2 v3 v4 most sec (us.length + 1) (rt us cs ts) := by
  have hnn := nan_neq now
  by_cases hnan : Fl.nan now = true
  · have HE : Hid (askT (rt us cs ts s) now = 1) := by unfold Hid askT; rw [hnan]; rfl
    rw [hnan] at hnn
    go_enter Try.func16, Try.ntmps16
    go_wp2
    go_ret
    exact ⟨by rw [HE.out]; rfl, v2, v3, v4, us, cs, ts, hD, fun _ => rfl, by omega, Keep.refl _ _, fun k hk => Or.inl hk⟩
  · have hnan' : Fl.nan now = false := by simpa using hnan
    rw [hnan'] at hnn
    have HA := at_any B d v2 v3 v4 most sec us cs ts s w hL hBw hD
    obtain ⟨hi1, hi2⟩ := uApp_ix us s
    have hrt := rt_app hD.lenc hD.lent s
    have hul := uApp_len us s
    have hget : ((tApp us ts s).getD (ix us s) NI) = (rt us cs ts s).2 := by rw [← hrt s]; unfold rt; rw [hi1]
    have hlt := f64_lt now (rt us cs ts s).2
    have HE : Hid (askT (rt us cs ts s) now = if flt now (rt us cs ts s).2 = true then 12 else 0) := by unfold Hid askT; rw [hnan']; rfl
    go_enter Try.func16, Try.ntmps16
    go_upto_region 4 with (first
      | (go_at_call 21; refine HA.mono ?_; rintro e w1 ⟨rfl, v2', v3', v4', hD1, hk1, hf1⟩))
    obtain ⟨g3, c3, g4, c4, rfl, rfl, _, _, q4, _, _, _, _⟩ := hD1.rows hi2
    have qd : w1.cell? ⟨d, 4, none⟩ = some (.slice (some ⟨g4, 0, none⟩) (uApp us s).length c4) := hD1.cell 4
    rw [hget] at q4
    have HR : Hid (RStep w w1 B d v2 v3 v4 most sec (us.length + 1) (rt us cs ts)) := ⟨_, _, _, _, _, _, hD1, hrt, hul, hk1, hf1⟩
    have hiz : ((ix us s : Nat) : Int) < (((uApp us s).length : Nat) : Int) := by omega
    clear hD1 hk1 hf1 HA hget hrt hul hi1 hi2
    generalize (uApp us s).length = L at *
    generalize ix us s = i at *
    cases hl : flt now (rt us cs ts s).2 with
    | true =>
      rw [hl] at hlt HE
      generalize (rt us cs ts s).2 = u at *
      go_wp2
      go_ret
      exact ⟨by rw [HE.out]; rfl, HR.out⟩
    | false =>
      rw [hl] at hlt HE
      generalize (rt us cs ts s).2 = u at *
      go_wp2
      go_ret
      exact ⟨by rw [HE.out]; rfl, HR.out⟩

set_option maxRecDepth 100000 in
set_option maxHeartbeats 1600000 in
theorem refPass_any (B d : Nat) (v2 v3 v4 : Value) (most : Int) (sec : Nat) (us : List ByteArray) (cs : List Int) (ts : List Nat) (s : ByteArray) (w : World) (hL : us.length ≤ 1000) (hBw : B ≤ w.heap.size) (hD : RD w B d v2 v3 v4 most sec us cs ts) :
    Calls Try.prog 14 #[.pointer (some ⟨d, 0, none⟩), .string s] w fun e w' => e = .returned (.tuple #[]) ∧ RStep w w' B d v2 v3 v4 most sec (us.length + 1) (fun x => if x = s then (0, (rt us cs ts s).2) else rt us cs ts x) := by
  have HA := at_any B d v2 v3 v4 most sec us cs ts s w hL hBw hD
  obtain ⟨hi1, hi2⟩ := uApp_ix us s
  have hrt := rt_app hD.lenc hD.lent s
  have hul := uApp_len us s
  go_enter Try.func14, Try.ntmps14
  go_upto_region 1 with (first
    | (go_at_call 21; refine HA.mono ?_; rintro e w1 ⟨rfl, v2', v3', v4', hD1, hk1, hf1⟩))
  obtain ⟨g3, c3, g4, c4, rfl, rfl, q3, z3, _, _, _, _, _⟩ := hD1.rows hi2
  have qd : w1.cell? ⟨d, 3, none⟩ = some (.slice (some ⟨g3, 0, none⟩) (uApp us s).length c3) := hD1.cell 3
  have HR : Hid (RStep w (w1.setCell ⟨g3, ix us s, none⟩ (.int .i64 0)) B d v2 v3 v4 most sec (us.length + 1) (fun x => if x = s then (0, (rt us cs ts s).2) else rt us cs ts x)) := by
    have hD2 := hD1.setc (ix us s) 0
    refine ⟨_, _, _, _, _, _, hD2, fun x => ?_, hul, hk1.andThen (keep_set _ _ _ _) (fun k hk e => ?_), hf1⟩
    · have := rt_setc (us := uApp us s) (ts := tApp us ts s) hD1.lenc (by rw [hi1]; exact hi2) 0 x
      rw [hi1] at this
      rw [this, hrt, hrt]
    · rcases hf1 k (Or.inr (Or.inr (Or.inl (by rw [e]; rfl)))) with h | h
      · exact h
      · omega
  have hiz : ((ix us s : Nat) : Int) < (((uApp us s).length : Nat) : Int) := by omega
  clear hD1 hk1 hf1 HA hrt hul hi1 hi2
  generalize (uApp us s).length = L at *
  generalize ix us s = i at *
  go_wp2
  go_end0
  exact ⟨rfl, HR.out⟩

set_option maxHeartbeats 800000 in
theorem refNew_ok (most : Int) (sec : Nat) (h1 : 1 ≤ most) (h2 : Fl.nan sec = false) (h3 : flt sec 0 = false) (w : World) :
    Calls Try.prog 8 #[.int .i64 most, .float .f64 sec] w fun e w' => e = .returned (.tuple #[.pointer (some ⟨w.heap.size, 0, none⟩), .bool true]) ∧ RD w' w.heap.size w.heap.size (.slice none 0 0) (.slice none 0 0) (.slice none 0 0) most sec [] [] [] ∧ Below w.heap.size w w' := by
  have hlt := f64_lt sec 0
  rw [h3] at hlt
  have hnn := nan_neq sec
  rw [h2] at hnn
  go_enter Try.func8, Try.ntmps8
  go_wp2
  go_ret2
  refine ⟨rfl, ⟨heap_alloc_new _ _, World.ownsRow_nil _ _ _ _, World.ownsRow_nil _ _ _ _, World.ownsRow_nil _ _ _ _, Nat.le_refl _⟩, ?_⟩
  exact ((Keep.refl (fun _ => False) _).alloc _).below (Nat.le_refl _) (fun _ h => h.elim)

set_option maxHeartbeats 800000 in
theorem refNew_bad (most : Int) (sec : Nat) (h : most < 1 ∨ Fl.nan sec = true ∨ flt sec 0 = true) (w : World) :
    Calls Try.prog 8 #[.int .i64 most, .float .f64 sec] w fun e w' => e = .returned (.tuple #[.pointer none, .bool false]) ∧ w' = w := by
  have hlt := f64_lt sec 0
  have hnn := nan_neq sec
  by_cases h1 : most < 1
  · clear h hlt hnn
    go_enter Try.func8, Try.ntmps8
    go_wp2
    go_ret2
    exact ⟨rfl, rfl⟩
  · cases h2 : Fl.nan sec with
    | true =>
      rw [h2] at hnn
      clear h hlt
      go_enter Try.func8, Try.ntmps8
      go_wp2
      go_ret2
      exact ⟨rfl, rfl⟩
    | false =>
      have h3 : flt sec 0 = true := by
        rcases h with h | h | h
        · exact absurd h h1
        · rw [h2] at h; cases h
        · exact h
      rw [h2] at hnn
      rw [h3] at hlt
      clear h h3
      go_enter Try.func8, Try.ntmps8
      go_wp2
      go_ret2
      exact ⟨rfl, rfl⟩

/-- A text of at most forty bytes. -/
def cut40 (s : ByteArray) : ByteArray := if 40 < s.size then s.extract 0 40 else s
theorem cut40_size (s : ByteArray) : (cut40 s).size ≤ 40 := by
  unfold cut40
  split
  · rw [ByteArray.size_extract]; omega
  · omega
set_option maxHeartbeats 800000 in
theorem text40 (s : ByteArray) (w : World) : Calls Try.prog 10 #[.string s, .int .i64 40] w fun e w' => e = .returned (.string (cut40 s)) ∧ w' = w := by
  by_cases h : 40 < s.size
  · have HE : Hid (cut40 s = s.extract 0 40) := by unfold Hid cut40; rw [if_pos h]
    have hz : (40 : Int) < (s.size : Int) := by omega
    go_enter Try.func10, Try.ntmps10
    go_wp2
    go_ret
    exact ⟨by rw [HE.out]; rfl, rfl⟩
  · have HE : Hid (cut40 s = s) := by unfold Hid cut40; rw [if_neg h]
    have hz : ¬ (40 : Int) < (s.size : Int) := by omega
    go_enter Try.func10, Try.ntmps10
    go_wp2
    go_ret
    exact ⟨by rw [HE.out]; rfl, rfl⟩

end Go.Proofs.Ytiidjdedeenijaa
