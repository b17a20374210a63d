/- The method that yields whole frames. -/
import Derived.Test.YtmpoddgmkneffaaFrLen
import Derived.Test.YtmpoddgmkneffaaFrRange
import Derived.Deep.CutRange
import Derived.Deep.QuietTactic
import Derived.BigQuiet
import Derived.TacticsInMore
namespace Go.Proofs.Ytmpoddgmkneffaa
open Go.RowKit Go.Shelf

/-- A reader's cells. -/
def RC (W : World) (p M : Nat) (v : Value) (big : Bool) : Prop := W.heap[p]? = some (.cells #[.int .u64 M, v, .bool big] 56 (0, 0))

theorem RC.lt {W : World} {p M : Nat} {v : Value} {big : Bool} (h : RC W p M v big) : p < W.heap.size := (Array.getElem?_eq_some_iff.1 (show W.heap[p]? = _ from h)).1
theorem RC.c0 {W : World} {p M : Nat} {v : Value} {big : Bool} (h : RC W p M v big) : W.cell? ⟨p, 0, none⟩ = some (.int .u64 M) := by simp [World.cell?, show W.heap[p]? = _ from h]
theorem RC.c1 {W : World} {p M : Nat} {v : Value} {big : Bool} (h : RC W p M v big) : W.cell? ⟨p, 1, none⟩ = some v := by simp [World.cell?, show W.heap[p]? = _ from h]
theorem RC.c2 {W : World} {p M : Nat} {v : Value} {big : Bool} (h : RC W p M v big) : W.cell? ⟨p, 2, none⟩ = some (.bool big) := by simp [World.cell?, show W.heap[p]? = _ from h]
theorem RC.fz {W : World} {p M : Nat} {v : Value} {big : Bool} (h : RC W p M v big) (j : Nat) : W.frozen? ⟨p, j, none⟩ = false := by simp [World.frozen?, show W.heap[p]? = _ from h]
theorem RC.set1 {W : World} {p M : Nat} {v : Value} {big : Bool} (h : RC W p M v big) (u : Value) : RC (W.setCell ⟨p, 1, none⟩ u) p M u big := by
  have h' : W.heap[p]? = _ := h
  show (W.setCell ⟨p, 1, none⟩ u).heap[p]? = _
  simp [World.setCell, Array.getElem?_modify, h']
theorem RC.set2 {W : World} {p M : Nat} {v : Value} {big : Bool} (h : RC W p M v big) (b : Bool) : RC (W.setCell ⟨p, 2, none⟩ (.bool b)) p M v b := by
  have h' : W.heap[p]? = _ := h
  show (W.setCell ⟨p, 2, none⟩ (.bool b)).heap[p]? = _
  simp [World.setCell, Array.getElem?_modify, h']
theorem RC.keep {S : Nat → Prop} {W W' : World} {p M : Nat} {v : Value} {big : Bool} (h : RC W p M v big) (hk : Keep S W W') (hs : ¬ S p) : RC W' p M v big := (hk.block p h.lt hs).trans h

def heldLen (W : World) (p : Nat) : Nat :=
  match W.cell? ⟨p, 1, none⟩ with
  | some (.slice _ n _) => n
  | _ => 0
theorem RC.heldLen {W : World} {p M : Nat} {a : Option Addr} {n c : Nat} {big : Bool} (h : RC W p M (.slice a n c) big) : heldLen W p = n := by unfold Go.Proofs.Ytmpoddgmkneffaa.heldLen; rw [h.c1]

theorem grown_set {w : World} {p j : Nat} (u : Value) : w.grownBy (w.setCell ⟨p, j, none⟩ u) (some p) :=
  ⟨rfl, rfl, rfl, by simp [World.setCell], fun k _ hk => Below.heap_setCell _ _ _ _ (fun e => hk (by rw [e]))⟩
theorem grown_trans {a b c : World} {r : Option Nat} (h : a.grownBy b r) (k : b.grownBy c r) : a.grownBy c r :=
  ⟨k.os.trans h.os, k.tape.trans h.tape, k.output.trans h.output, Nat.le_trans h.size k.size, fun i hi hr => (k.block i (Nat.lt_of_lt_of_le hi h.size) hr).trans (h.block i hi hr)⟩
theorem grown_any {a b : World} (r : Option Nat) (h : a.grownBy b none) : a.grownBy b r := ⟨h.os, h.tape, h.output, h.size, fun i hi _ => h.block i hi (by simp)⟩
theorem grown_drewN {a : World} (n : Nat) (r : Option Nat) : a.grownBy (a.drewN n) r := ⟨rfl, rfl, rfl, Nat.le_refl _, fun _ _ _ => rfl⟩
theorem rd_drewN {w : World} {a : Option Addr} {n c : Nat} {xs : List Int} (h : Rd w a n c xs) (k : Nat) : Rd (w.drewN k) a n c xs := ⟨h.len, h.cap, h.most, h.nil, h.bytes, h.cells⟩
theorem RC.drewN {W : World} {p M : Nat} {v : Value} {big : Bool} (h : RC W p M v big) (k : Nat) : RC (W.drewN k) p M v big := h

/-- 's[k:]': where it points (at its cap's end it points where s did). -/
theorem slice_from {b o n c k : Nat} (hk : k ≤ n) (hc : n ≤ c) (kd : IntKind) : ∃ o', (∀ w, (Instr.sliceAt 31 (.slice (some ⟨b, o, none⟩) n c) (some (.int kd k)) none none).run Try.prog w = .ok (.slice (some ⟨b, o', none⟩) (n - k) (c - k)) w) ∧
    ∀ (w : World) (xs : List Int), Rd w (some ⟨b, o, none⟩) n c xs → Rd w (some ⟨b, o', none⟩) (n - k) (c - k) (xs.drop k) := by
  have he : Try.prog.elem 31 = 5 := by kernel_rfl
  have hu : Try.prog.underlying 31 = some (.slice (Try.prog.elem 31)) := by rw [he]; exact Try.underlying31
  obtain ⟨i0, hi, hz0, hz1, hz2⟩ := info_parts Try.info5
  by_cases hck : c = k
  · refine ⟨o, fun w => ?_, fun w xs h => ?_⟩
    · rw [run_sliceAt_slice _ _ _ _ _ _ hu]
      simp [Instr.slice, run_underlying Try.underlying31, Instr.sliceBounds, sizeOf, typeInfo, hi, Sem.run_bind, Result.andThen, run_sliceBound _ kd (k : Int) n _ (by omega) (by omega), hck]
    · refine ⟨by rw [List.length_drop, h.len], by omega, by have := h.most; omega, (fun e => by cases e), h.bytes.drop k, fun ad _ j hj => by omega⟩
  · refine ⟨o + k, fun w => ?_, fun w xs h => h.drop hk⟩
    rw [run_sliceAt_slice _ _ _ _ _ _ hu]
    simp [Instr.slice, run_underlying Try.underlying31, Instr.sliceBounds, sizeOf, typeInfo, hi, hz1, Sem.run_bind, Result.andThen, run_sliceBound _ kd (k : Int) n _ (by omega) (by omega), hck, add_flat]

theorem slice_to {b o n c k : Nat} (hk : k ≤ c) (kd : IntKind) : ∀ w, (Instr.sliceAt 31 (.slice (some ⟨b, o, none⟩) n c) none (some (.int kd k)) none).run Try.prog w = .ok (.slice (some ⟨b, o, none⟩) k c) w := by
  intro w
  have he : Try.prog.elem 31 = 5 := by kernel_rfl
  have hu : Try.prog.underlying 31 = some (.slice (Try.prog.elem 31)) := by rw [he]; exact Try.underlying31
  obtain ⟨i0, hi, hz0, hz1, hz2⟩ := info_parts Try.info5
  rw [run_sliceAt_slice _ _ _ _ _ _ hu]
  simp [Instr.slice, run_underlying Try.underlying31, Instr.sliceBounds, sizeOf, typeInfo, hi, Sem.run_bind, Result.andThen, run_sliceBound _ kd (k : Int) c _ (by omega) (by omega), add_flat]

theorem grown_cell {w w1 : World} {nq : Nat} {a : Addr} {v : Value} (h : (w.drewN nq).grownBy w1 none) (hc : w.cell? a = some v) (hf : w.frozen? a = false) : w1.cell? a = some v ∧ w1.frozen? a = false := by
  have hb := h.block a.block (World.block_lt_of_cell? w a hc) (by simp)
  exact ⟨(World.cell?_of_block (w := w) hb).trans hc, (World.frozen?_of_block (w := w) hb).trans hf⟩

theorem yield_own {wr w1 : World} {nq p M g k cap : Nat} {u u' : Value} {x : List Int} (hown : w1.ownsRow (wr.drewN nq).heap.size 5 1 (.slice (some ⟨g, 0, none⟩) k cap) k (bc x)) (hC : RC wr p M u false) :
    (w1.setCell ⟨p, 1, none⟩ u').ownsRow wr.heap.size 5 1 (.slice (some ⟨g, 0, none⟩) k cap) k (bc x) := by
  refine own_keep (S := fun i => i = p) hown (Keep.setCell (S := fun i => i = p) (Keep.refl _ _) rfl _) (fun i hi e => ?_)
  have h1 := (hown.lt i hi).1
  have h2 := hC.lt
  have h3 : (wr.drewN nq).heap.size = wr.heap.size := rfl
  omega

theorem next_rc {wr w1 W3 : World} {nq p M n₀ : Nat} {u u' : Value} (hC : RC wr p M u false) (hgr : (wr.drewN nq).grownBy w1 none) (hb : Below n₀ (w1.setCell ⟨p, 1, none⟩ u') W3) (hp : p < n₀) : RC W3 p M u' false := by
  have h1 : RC w1 p M u false := (hgr.block p hC.lt (by simp)).trans hC
  exact (hb.block p hp).trans (h1.set1 u')
theorem next_rd {wr w1 W3 : World} {nq p n₀ b o m c : Nat} {u' : Value} {xs : List Int} (hR : Rd wr (some ⟨b, o, none⟩) m c xs) (hgr : (wr.drewN nq).grownBy w1 none) (hb : Below n₀ (w1.setCell ⟨p, 1, none⟩ u') W3) (hpb : p ≠ b) (hbn : b < n₀) : Rd W3 (some ⟨b, o, none⟩) m c xs := by
  refine ⟨hR.len, hR.cap, hR.most, hR.nil, hR.bytes, fun ad ha j hj => ?_⟩
  have hc := hR.cells ad ha j hj
  cases ha
  rw [add_flat] at hc ⊢
  have h1 : w1.cell? ⟨b, o + j, none⟩ = some (.int .u8 (xs.getD j 0)) := (World.cell?_of_block (w := wr) (hgr.block b (World.block_lt_of_cell? wr _ hc) (by simp))).trans hc
  have h2 : (w1.setCell ⟨p, 1, none⟩ u').cell? ⟨b, o + j, none⟩ = some (.int .u8 (xs.getD j 0)) := (World.cell?_of_block (w := w1) (Below.heap_setCell _ _ _ _ (fun e => hpb e.symm))).trans h1
  exact (hb.cell (p := ⟨b, o + j, none⟩) hbn).trans h2

theorem cut_step {M : Nat} {xs rest : List Int} {pre : List (List Int)} (HX : cut M xs = (pre ++ (cut M rest).1, (cut M rest).2)) (h4 : ¬ rest.length < 4) (h1 : ¬ M < be rest) (h2 : ¬ rest.length - 4 < be rest) :
    cut M xs = ((pre ++ [(rest.drop 4).take (be rest)]) ++ (cut M (rest.drop (4 + be rest))).1, (cut M (rest.drop (4 + be rest))).2) := by
  rw [HX, cut_more h4 h1 h2]; simp

set_option maxHeartbeats 1600000 in
theorem whole_any (l p n₀ M : Nat) (b off n c : Nat) (xs : List Int) (J : List (List Int) → World → Prop) (hJ : ∀ s W W', J s W → W.grownBy W' (some p) → J s W')
    (hY : ∀ s (x : List Int) W0 W g k cap, x.length = k → s.length < 10000000 → J s W0 → W0.grownBy W (some p) → W.ownsRow W0.heap.size 5 1 (.slice (some ⟨g, 0, none⟩) k cap) k (bc x) → Bd x →
        YieldAt Fence.wide 0 Try.prog l #[.slice (some ⟨g, 0, none⟩) k cap] W fun e W' => e = .returned (.bool true) ∧ J (s ++ [x]) W' ∧ Below n₀ W W')
    (hp : p < n₀) (hb : b < n₀) (w : World) (hC : RC w p M (.slice (some ⟨b, off, none⟩) n c) false) (hpb : p ≠ b) (hR : Rd w (some ⟨b, off, none⟩) n c xs) (hn : n ≤ 10000000) (h0 : J [] w) :
    Calls Try.prog 23 #[.pointer (some ⟨p, 0, none⟩), .func (.yield l) #[] #[]] w fun e w' => (∃ v, e = .returned v) ∧
      ∃ a' n' c', RC w' p M (.slice a' n' c') (cut M xs).2.2 ∧ Rd w' a' n' c' (cut M xs).2.1 ∧ ((cut M xs).2.2 = false → (∃ off', a' = some ⟨b, off', none⟩) ∧ ((cut M xs).1 = [] → a' = some ⟨b, off, none⟩ ∧ n' = n ∧ c' = c)) ∧ ((cut M xs).2.2 = true → a' = none ∧ n' = 0 ∧ c' = 0) ∧ J (cut M xs).1 w' := by
  go_enter Try.func23, Try.ntmps23
  go_wp2
  go_loopw [4] (fun _ wr => ∃ (pre : List (List Int)) (o m cc : Nat) (rest : List Int), RC wr p M (.slice (some ⟨b, o, none⟩) m cc) false ∧ Rd wr (some ⟨b, o, none⟩) m cc rest ∧ pre.length + m ≤ 10000000 ∧ J pre wr ∧ Hid (pre = [] → o = off ∧ m = n ∧ cc = c) ∧
    Hid (cut M xs = (pre ++ (cut M rest).1, (cut M rest).2))) (fun _ wr => heldLen wr p)
  case atStart => exact ⟨[], off, n, c, xs, hC, hR, by simpa using hn, h0, (fun _ => ⟨rfl, rfl, rfl⟩ : [] = [] → _), by show cut M xs = _; simp⟩
  case round =>
    obtain ⟨pre, o, m, cc, rest, hC1, hR1, hm, hJ1, HS, HX⟩ := hrel
    have hc1 := hC1.c1
    have hlen := hR1.len
    have hcap := hR1.cap
    have hmx : cc ≤ 9223372036854775807 := hR1.most
    by_cases hs : m < 4
    · have hsz : ¬ (4 : Int) ≤ (m : Int) := by omega
      go_wp2
      go_end0
      have e : cut M xs = (pre, rest, false) := by rw [HX.out, cut_short (l := rest) (by omega)]; simp
      rw [e]
      exact ⟨⟨_, rfl⟩, _, _, _, hC1, hR1, fun _ => ⟨⟨_, rfl⟩, fun h => by obtain ⟨e1, e2, e3⟩ := HS.out h; exact ⟨by rw [e1], e2, e3⟩⟩, (fun h => by cases h), hJ1⟩
    · have hsz : (4 : Int) ≤ (m : Int) := by omega
      have hcz : (4 : Int) ≤ (cc : Int) := by omega
      have hbl := be_lt hR1.bytes
      have hc0 := hC1.c0
      have hc2 := hC1.c2
      have hf1 := hC1.fz 1
      have hf2 := hC1.fz 2
      have cbig : M < be rest → cut M xs = (pre, [], true) := fun h => by rw [HX.out, cut_big (l := rest) (by omega) h]; simp
      have cwait : ¬ M < be rest → m - 4 < be rest → cut M xs = (pre, rest, false) := fun h h2 => by rw [HX.out, cut_wait (l := rest) (by omega) h (by omega)]; simp
      by_cases hcc : cc = 4
      · subst hcc
        obtain rfl : m = 4 := by omega
        go_wp2
        go_quiet ((go_at_call 28; exact Calls.quiet_of_same (length_any b o 4 4 rest _ (rd_drewN hR1 _) (by omega))))
        by_cases hbig : M < be rest
        · have hbz : (M : Int) < (be rest : Int) := by omega
          have HB : Hid (cut M xs = (pre, [], true)) := cbig hbig
          clear cbig cwait
          go_wp2
          refine bodyPost_ret (results_none rfl _ _ _) rfl ?_
          rw [HB.out]
          exact ⟨⟨_, rfl⟩, none, 0, 0, ((hC1.drewN nq).set1 _).set2 true, rd_nil _, (fun h => by cases h), (fun _ => ⟨rfl, rfl, rfl⟩), hJ _ _ _ hJ1 (grown_trans (grown_trans (grown_drewN nq _) (grown_set _)) (grown_set _))⟩
        · have hbz : ¬ (M : Int) < (be rest : Int) := by omega
          by_cases hw : 4 - 4 < be rest
          · have hwz : (0 : Int) < (be rest : Int) := by omega
            have HB : Hid (cut M xs = (pre, rest, false)) := cwait hbig hw
            clear cbig cwait
            go_wp2
            refine bodyPost_ret (results_none rfl _ _ _) rfl ?_
            rw [HB.out]
            exact ⟨⟨_, rfl⟩, _, _, _, hC1.drewN nq, rd_drewN hR1 nq, fun _ => ⟨⟨_, rfl⟩, fun h => by obtain ⟨e1, e2, e3⟩ := HS.out h; exact ⟨by rw [e1], e2, e3⟩⟩, (fun h => by cases h), hJ _ _ _ hJ1 (grown_drewN nq _)⟩
          · have hbe : be rest = 0 := by omega
            have HB : Hid (cut M xs = ((pre ++ [(rest.drop 4).take (be rest)]) ++ (cut M (rest.drop (4 + be rest))).1, (cut M (rest.drop (4 + be rest))).2)) := cut_step HX.out (by omega) hbig (by omega)
            have hRe : Rd wr (some ⟨b, o, none⟩) 0 0 [] := ⟨rfl, Nat.le_refl _, by unfold maxLen; omega, (fun e => by cases e), Bd.nil, fun _ _ j hj => by omega⟩
            clear cbig cwait
            go_upto_region 7 with (go_at_call 24; refine (clone_any b o 0 0 [] _ (rd_drewN hRe _) (by omega)).mono ?_; rintro e w1 ⟨g, cap, rfl, hown1, hgr1⟩; obtain ⟨hx1, hx2⟩ := grown_cell hgr1 hc1 hf1)
            have HE : Hid (cut M xs = ((pre ++ [[]]) ++ (cut M []).1, (cut M []).2)) := by
              have h := HB.out
              rw [hbe, List.take_zero, List.drop_of_length_le (l := rest) (by omega)] at h
              exact h
            refine (wpIn_wide (n := 1)).1 ?_
            obtain ⟨fn, tmps, assign, body, hy, hRd⟩ := hY pre [] wr (w1.setCell ⟨p, 1, none⟩ (.slice (some ⟨b, o, none⟩) 0 0)) g 0 cap rfl (by omega) hJ1
              (grown_trans (grown_trans (grown_drewN nq _) (grown_any _ hgr1)) (grown_set _)) (yield_own hown1 hC1) Bd.nil
            gi_wp2
            refine hRd.mono ?_
            rintro e W3 ⟨rfl, hJ3, hb3⟩
            gi_wp2
            go_wp2
            have hC3 := next_rc hC1 hgr1 hb3 hp
            have hR3 := next_rd hRe hgr1 hb3 hpb hb
            go_roundw
            case rel => exact ⟨_, _, _, _, _, hC3, hR3, by simp; omega, hJ3, (fun h => absurd h (by simp) : pre ++ [_] = [] → _), HE⟩
            case measure => rw [hC3.heldLen, hC1.heldLen]; omega
      · have hR4 := hR1.drop (k := 4) (by omega)
        go_wp2
        go_quiet ((go_at_call 28; exact Calls.quiet_of_same (length_any b o m cc rest _ (rd_drewN hR1 _) (by omega))))
        by_cases hbig : M < be rest
        · have hbz : (M : Int) < (be rest : Int) := by omega
          have HB : Hid (cut M xs = (pre, [], true)) := cbig hbig
          clear cbig cwait
          go_wp2
          refine bodyPost_ret (results_none rfl _ _ _) rfl ?_
          rw [HB.out]
          exact ⟨⟨_, rfl⟩, none, 0, 0, ((hC1.drewN nq).set1 _).set2 true, rd_nil _, (fun h => by cases h), (fun _ => ⟨rfl, rfl, rfl⟩), hJ _ _ _ hJ1 (grown_trans (grown_trans (grown_drewN nq _) (grown_set _)) (grown_set _))⟩
        · have hbz : ¬ (M : Int) < (be rest : Int) := by omega
          by_cases hw : m - 4 < be rest
          · have hwz : ((m : Int) - 4) < (be rest : Int) := by omega
            have HB : Hid (cut M xs = (pre, rest, false)) := cwait hbig hw
            clear cbig cwait
            go_wp2
            refine bodyPost_ret (results_none rfl _ _ _) rfl ?_
            rw [HB.out]
            exact ⟨⟨_, rfl⟩, _, _, _, hC1.drewN nq, rd_drewN hR1 nq, fun _ => ⟨⟨_, rfl⟩, fun h => by obtain ⟨e1, e2, e3⟩ := HS.out h; exact ⟨by rw [e1], e2, e3⟩⟩, (fun h => by cases h), hJ _ _ _ hJ1 (grown_drewN nq _)⟩
          · have hwz : ¬ ((m : Int) - 4) < (be rest : Int) := by omega
            have HB : Hid (cut M xs = ((pre ++ [(rest.drop 4).take (be rest)]) ++ (cut M (rest.drop (4 + be rest))).1, (cut M (rest.drop (4 + be rest))).2)) := cut_step HX.out (by omega) hbig (by omega)
            clear cbig cwait
            by_cases hce : cc - 4 = be rest
            · obtain rfl : cc = be rest + 4 := by omega
              go_upto_region 7 with (go_at_call 24; refine (clone_any b (o + 4) (be rest) (be rest) ((rest.drop 4).take (be rest)) _ (rd_drewN (hR4.take (by omega)) _) (by omega)).mono ?_; rintro e w1 ⟨g, cap, rfl, hown1, hgr1⟩; obtain ⟨hx1, hx2⟩ := grown_cell hgr1 hc1 hf1)
              have hRe : Rd wr (some ⟨b, o + 4, none⟩) 0 0 [] := ⟨rfl, Nat.le_refl _, by unfold maxLen; omega, (fun e => by cases e), Bd.nil, fun _ _ j hj => by omega⟩
              have HE : Hid (cut M xs = ((pre ++ [(rest.drop 4).take (be rest)]) ++ (cut M []).1, (cut M []).2)) := by
                have h := HB.out
                rw [List.drop_of_length_le (l := rest) (i := 4 + be rest) (by omega)] at h
                exact h
              refine (wpIn_wide (n := 1)).1 ?_
              obtain ⟨fn, tmps, assign, body, hy, hRd⟩ := hY pre ((rest.drop 4).take (be rest)) wr (w1.setCell ⟨p, 1, none⟩ (.slice (some ⟨b, o + 4, none⟩) 0 0)) g (be rest) cap (by simp; omega) (by omega) hJ1
                (grown_trans (grown_trans (grown_drewN nq _) (grown_any _ hgr1)) (grown_set _)) (yield_own hown1 hC1) ((hR1.bytes.drop _).take _)
              gi_wp2
              refine hRd.mono ?_
              rintro e W3 ⟨rfl, hJ3, hb3⟩
              gi_wp2
              go_wp2
              have hC3 := next_rc hC1 hgr1 hb3 hp
              have hR3 := next_rd hRe hgr1 hb3 hpb hb
              go_roundw
              case rel => exact ⟨_, _, _, _, _, hC3, hR3, by simp; omega, hJ3, (fun h => absurd h (by simp) : pre ++ [_] = [] → _), HE⟩
              case measure => rw [hC3.heldLen, hC1.heldLen]; omega
            · have hR5 := hR4.drop (k := be rest) (by omega)
              go_upto_region 7 with (go_at_call 24; refine (clone_any b (o + 4) (be rest) (cc - 4) ((rest.drop 4).take (be rest)) _ (rd_drewN (hR4.take (by omega)) _) (by omega)).mono ?_; rintro e w1 ⟨g, cap, rfl, hown1, hgr1⟩; obtain ⟨hx1, hx2⟩ := grown_cell hgr1 hc1 hf1)
              refine (wpIn_wide (n := 1)).1 ?_
              obtain ⟨fn, tmps, assign, body, hy, hRd⟩ := hY pre ((rest.drop 4).take (be rest)) wr (w1.setCell ⟨p, 1, none⟩ (.slice (some ⟨b, o + 4 + be rest, none⟩) (m - 4 - be rest) (cc - 4 - be rest))) g (be rest) cap (by simp; omega) (by omega) hJ1
                (grown_trans (grown_trans (grown_drewN nq _) (grown_any _ hgr1)) (grown_set _)) (yield_own hown1 hC1) ((hR1.bytes.drop _).take _)
              gi_wp2
              refine hRd.mono ?_
              rintro e W3 ⟨rfl, hJ3, hb3⟩
              gi_wp2
              go_wp2
              have hC3 := next_rc hC1 hgr1 hb3 hp
              have hR3 := next_rd hR5 hgr1 hb3 hpb hb
              rw [List.drop_drop] at hR3
              go_roundw
              case rel => exact ⟨_, _, _, _, _, hC3, hR3, by simp; omega, hJ3, (fun h => absurd h (by simp) : pre ++ [_] = [] → _), HB⟩
              case measure => rw [hC3.heldLen, hC1.heldLen]; omega

theorem whole_nil (l p M : Nat) (J : List (List Int) → World → Prop) (w : World) (hC : RC w p M (.slice none 0 0) false) (h0 : J [] w) :
    Calls Try.prog 23 #[.pointer (some ⟨p, 0, none⟩), .func (.yield l) #[] #[]] w fun e w' => (∃ v, e = .returned v) ∧ RC w' p M (.slice none 0 0) false ∧ J [] w' := by
  have hc1 := hC.c1
  go_enter Try.func23, Try.ntmps23
  go_wp2
  refine wp_loop_rounds 1 ?_
  rw [rounds_succ]
  go_wp2
  go_end0
  exact ⟨⟨_, rfl⟩, hC, h0⟩

end Go.Proofs.Ytmpoddgmkneffaa
