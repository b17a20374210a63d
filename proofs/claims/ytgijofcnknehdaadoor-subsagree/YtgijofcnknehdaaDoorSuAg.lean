/- SubsAgree: two ends act and hear in any order; when all mails have come, both know the same. -/
import Derived.Test.YtgijofcnknehdaaDoorSuV
namespace Go.Proofs.YtgijofcnknehdaaDoor
open Go.RowKit Go.Joins

section
variable {w wr : World} {h0 h1 : Hf} {n0 n1 : Int} {v0 v1 : Value} {q0 q1 : List Lt}
theorem Ag.H0 (A : Ag w h0 h1 n0 n1 v0 v1 q0 q1 wr) : wr.cell? ⟨w.heap.size, 0, none⟩ = some (.int .i64 h0.o) := by rw [cell_of_block A.aH]; rfl
theorem Ag.H1 (A : Ag w h0 h1 n0 n1 v0 v1 q0 q1 wr) : wr.cell? ⟨w.heap.size, 1, none⟩ = some (.int .u64 h0.n) := by rw [cell_of_block A.aH]; rfl
theorem Ag.H2 (A : Ag w h0 h1 n0 n1 v0 v1 q0 q1 wr) : wr.cell? ⟨w.heap.size, 2, none⟩ = some (.int .i64 h0.i) := by rw [cell_of_block A.aH]; rfl
theorem Ag.H3 (A : Ag w h0 h1 n0 n1 v0 v1 q0 q1 wr) : wr.cell? ⟨w.heap.size, 3, none⟩ = some (.int .u64 h0.m) := by rw [cell_of_block A.aH]; rfl
theorem Ag.H4 (A : Ag w h0 h1 n0 n1 v0 v1 q0 q1 wr) : wr.cell? ⟨w.heap.size, 4, none⟩ = some (.int .i64 h1.o) := by rw [cell_of_block A.aH]; rfl
theorem Ag.H5 (A : Ag w h0 h1 n0 n1 v0 v1 q0 q1 wr) : wr.cell? ⟨w.heap.size, 5, none⟩ = some (.int .u64 h1.n) := by rw [cell_of_block A.aH]; rfl
theorem Ag.H6 (A : Ag w h0 h1 n0 n1 v0 v1 q0 q1 wr) : wr.cell? ⟨w.heap.size, 6, none⟩ = some (.int .i64 h1.i) := by rw [cell_of_block A.aH]; rfl
theorem Ag.H7 (A : Ag w h0 h1 n0 n1 v0 v1 q0 q1 wr) : wr.cell? ⟨w.heap.size, 7, none⟩ = some (.int .u64 h1.m) := by rw [cell_of_block A.aH]; rfl
theorem Ag.V0 (A : Ag w h0 h1 n0 n1 v0 v1 q0 q1 wr) : wr.cell? ⟨w.heap.size + 1, 0, none⟩ = some v0 := by rw [cell_of_block A.aW]; rfl
theorem Ag.V1 (A : Ag w h0 h1 n0 n1 v0 v1 q0 q1 wr) : wr.cell? ⟨w.heap.size + 1, 1, none⟩ = some v1 := by rw [cell_of_block A.aW]; rfl
theorem Ag.VF (A : Ag w h0 h1 n0 n1 v0 v1 q0 q1 wr) (i : Nat) : wr.frozen? ⟨w.heap.size + 1, i, none⟩ = false := unfrozen_of_block A.aW i
theorem Ag.N0 (A : Ag w h0 h1 n0 n1 v0 v1 q0 q1 wr) : wr.cell? ⟨w.heap.size + 2, 0, none⟩ = some (.int .u64 n0) := by rw [cell_of_block A.aN]; rfl
theorem Ag.N1 (A : Ag w h0 h1 n0 n1 v0 v1 q0 q1 wr) : wr.cell? ⟨w.heap.size + 2, 1, none⟩ = some (.int .u64 n1) := by rw [cell_of_block A.aN]; rfl
theorem Ag.NF (A : Ag w h0 h1 n0 n1 v0 v1 q0 q1 wr) (i : Nat) : wr.frozen? ⟨w.heap.size + 2, i, none⟩ = false := unfrozen_of_block A.aN i
theorem Ag.K (A : Ag w h0 h1 n0 n1 v0 v1 q0 q1 wr) (k : Nat) (hk : k < 4) : wr.cell? ⟨w.heap.size + 3, k, none⟩ = some (.int .i64 (kiT k)) := by
  rw [cell_of_block A.aK]
  rcases k with _ | _ | _ | _ | k <;> first | rfl | omega
end
theorem own_tail (g0 off n cap : Nat) (k : Nat) : (Value.slice (if cap = 1 then some ⟨g0, off, none⟩ else some ⟨g0, off + 2, none⟩) n k).ownBlock = some g0 := by split <;> rfl
theorem Ag.tail0 {w wr : World} {h0 h1 : Hf} {n0 n1 : Int} {v1 : Value} {q q1 : List Lt} {x : Lt} {g0 off cap : Nat} (A : Ag w h0 h1 n0 n1 (.slice (some ⟨g0, off, none⟩) (q.length + 1) cap) v1 (x :: q) q1 wr) : Ag w h0 h1 n0 n1 (.slice (if cap = 1 then some ⟨g0, off, none⟩ else some ⟨g0, off + 2, none⟩) q.length (cap - 1)) v1 q q1 (wr.setCell ⟨w.heap.size + 1, 0, none⟩ (.slice (if cap = 1 then some ⟨g0, off, none⟩ else some ⟨g0, off + 2, none⟩) q.length (cap - 1))) := by
  obtain ⟨g', off', cap', e', _, _, _, _, hn⟩ := A.u0.head
  injection e' with e1 _ e3
  injection e1 with e1
  injection e1 with e1 e2 _
  subst e1 e2 e3
  exact A.pop0 (own_tail _ _ _ _ _) (fun wx hk => hn wx (hk.mono (fun i h e => h (by rw [e]; rfl))))
theorem Ag.tail1 {w wr : World} {h0 h1 : Hf} {n0 n1 : Int} {v0 : Value} {q0 q : List Lt} {x : Lt} {g0 off cap : Nat} (A : Ag w h0 h1 n0 n1 v0 (.slice (some ⟨g0, off, none⟩) (q.length + 1) cap) q0 (x :: q) wr) : Ag w h0 h1 n0 n1 v0 (.slice (if cap = 1 then some ⟨g0, off, none⟩ else some ⟨g0, off + 2, none⟩) q.length (cap - 1)) q0 q (wr.setCell ⟨w.heap.size + 1, 1, none⟩ (.slice (if cap = 1 then some ⟨g0, off, none⟩ else some ⟨g0, off + 2, none⟩) q.length (cap - 1))) := by
  obtain ⟨g', off', cap', e', _, _, _, _, hn⟩ := A.u1.head
  injection e' with e1 _ e3
  injection e1 with e1
  injection e1 with e1 e2 _
  subst e1 e2 e3
  exact A.pop1 (own_tail _ _ _ _ _) (fun wx hk => hn wx (hk.mono (fun i h e => h (by rw [e]; rfl))))
/-- The step's variable. -/
structure DoAt (w : World) (g : Nat) (d : Int) : Prop where
  bk : ∃ e : Int, w.heap[g]? = some (.cells #[.int .i64 e, .int .i64 d] 46 (0, 0))
theorem DoAt.c1 {w : World} {g : Nat} {d : Int} (D : DoAt w g d) : w.cell? ⟨g, 1, none⟩ = some (.int .i64 d) := by obtain ⟨e, h⟩ := D.bk; rw [cell_of_block h]; rfl
theorem DoAt.lt {w : World} {g : Nat} {d : Int} (D : DoAt w g d) : g < w.heap.size := by obtain ⟨e, h⟩ := D.bk; exact (Array.getElem?_eq_some_iff.1 h).1
theorem DoAt.below {w w' : World} {g : Nat} {d : Int} (D : DoAt w g d) (hb : Below w.heap.size w w') : DoAt w' g d := by obtain ⟨e, h⟩ := D.bk; exact ⟨e, box_below h hb⟩
theorem DoAt.row {w : World} {g : Nat} {d : Int} (D : DoAt w g d) {c : Nat} {v : Array Value} (hc : g ≠ c) : DoAt (w.setRow c v) g d := by obtain ⟨e, h⟩ := D.bk; exact ⟨e, (setRow_other w c g _ hc).trans h⟩
theorem DoAt.cell {w : World} {g : Nat} {d : Int} (D : DoAt w g d) {p : Addr} {v : Value} (hc : g ≠ p.block) : DoAt (w.setCell p v) g d := by obtain ⟨e, h⟩ := D.bk; exact ⟨e, (Below.heap_setCell _ _ _ _ hc).trans h⟩
theorem below_drewN {B : Nat} {w w' : World} (h : Below B w w') (n : Nat) : Below B w (w'.drewN n) := ⟨h.os, h.tape, h.output, h.size, h.block⟩
theorem wrd (dd : Nat) (h : dd < 4) : IntKind.i64.wrap (dd : Int) = (dd : Int) := by
  simp [IntKind.wrap, IntKind.bits, IntKind.signed]; omega

set_option maxRecDepth 100000 in
set_option maxHeartbeats 8000000 in
theorem subsAgree_any (a : Option Addr) (n c : Nat) (f : Nat → Int × Int) (w : World) (hE : SRd w a n c f) (hU : Tu w) :
    Calls Tryd.prog 4 #[.slice a n c] w fun e w' => e = .returned (.bool true) ∧ Below w.heap.size w w' := by
  have HE : Hid (SRd w a n c f) := hE
  have HU : Hid (Tu w) := hU
  have hZ : (n : Int) ≤ 9223372036854775807 := by have := hE.cap; have := hE.most; unfold maxLen at this; omega
  clear hE hU
  go_enter Tryd.func4, Tryd.ntmps4
  go_wp2_with fail
  go_loopg [7, 8, 9, 10, 11, 12, 13, 14, 15, 16] (mu (min n 300) 0 0 0) (fun kx s7 _ _ _ _ _ _ _ _ _ wr => ∃ (i : Nat) (h0 h1 : Hf) (n0 n1 : Int) (v0 v1 : Value) (q0 q1 : List Lt), s7 = .int .i64 i ∧ Hid (mu (min n 300) i q0.length q1.length = kx) ∧ i + kx ≤ 1501 ∧ n0 ≤ i ∧ n1 ≤ i ∧ q0.length + q1.length ≤ i ∧ Hid (Ag w h0 h1 n0 n1 v0 v1 q0 q1 wr) ∧ Hid (Pz h0 h1 q0 q1 n0 n1))
  case atStart =>
    refine ⟨0, ⟨0, 0, 0, 0⟩, ⟨0, 0, 0, 0⟩, 0, 0, .slice none 0 0, .slice none 0 0, [], [], rfl, rfl, ?_, by decide, by decide, by simp, ?_, Pz.new⟩
    · unfold mu; simp; omega
    · exact ⟨push_old (push_old (push_old (push_at _ _ rfl))), push_old (push_old (push_at _ _ (by simp))), push_old (push_at _ _ (by simp)), push_at _ _ (by simp), Qu.nil _ _, Qu.nil _ _, (fun g e => by cases e), (((((Below.refl _ _).alloc (Nat.le_refl _) _).alloc (by simp) _).alloc (by simp; omega) _).alloc (by simp; omega) _), by simp⟩
  case round =>
    obtain ⟨i, h0, h1, n0, n1, v0, v1, q0, q1, rfl, Hmu, hib, hn0, hn1, hql, HA, HP⟩ := hrel
    obtain ⟨a0, c0, ev0, _⟩ := HA.out.u0.ex
    obtain ⟨a1, c1, ev1, _⟩ := HA.out.u1.ex
    have y0 := HA.out.V0
    have y1 := HA.out.V1
    rw [ev0] at y0
    rw [ev1] at y1
    have l0 : (q0.length : Int) ≤ 1501 := by omega
    have l1 : (q1.length : Int) ≤ 1501 := by omega
    go_upto_region 6 with fail
    go_cut [36] from 19 to 142 (fun s36 wx => ∃ L : Bool, s36 = .bool L ∧ (L = true ↔ (i < min n 300 ∨ 0 < q0.length + q1.length)) ∧ wx = wr)
    case first =>
      by_cases hA : i < n
      · have hA' : (i : Int) < (n : Int) := by omega
        by_cases hB : i < 300
        · have hB' : (i : Int) < 300 := by omega
          go_wp2_with fail
          go_meet
          exact ⟨true, rfl, ⟨fun _ => by omega, fun _ => rfl⟩, rfl⟩
        · have hB' : ¬ ((i : Int) < 300) := by omega
          by_cases hT : 0 < q0.length + q1.length
          · have hT' : (0 : Int) < (q0.length : Int) + (q1.length : Int) := by omega
            go_wp2_with fail
            go_meet
            exact ⟨true, rfl, ⟨fun _ => by omega, fun _ => rfl⟩, rfl⟩
          · have hT' : ¬ ((0 : Int) < (q0.length : Int) + (q1.length : Int)) := by omega
            go_wp2_with fail
            go_meet
            exact ⟨false, rfl, ⟨(fun h => by cases h), fun h => by omega⟩, rfl⟩
      · have hA' : ¬ ((i : Int) < (n : Int)) := by omega
        by_cases hT : 0 < q0.length + q1.length
        · have hT' : (0 : Int) < (q0.length : Int) + (q1.length : Int) := by omega
          go_wp2_with fail
          go_meet
          exact ⟨true, rfl, ⟨fun _ => by omega, fun _ => rfl⟩, rfl⟩
        · have hT' : ¬ ((0 : Int) < (q0.length : Int) + (q1.length : Int)) := by omega
          go_wp2_with fail
          go_meet
          exact ⟨false, rfl, ⟨(fun h => by cases h), fun h => by omega⟩, rfl⟩
    case rest =>
    obtain ⟨L, rfl, hL, ew⟩ := hcut
    obtain rfl := ew.symm
    clear y0 y1
    cases L with
    | false => as_aux_lemma =>
      have hz : ¬ (i < min n 300 ∨ 0 < q0.length + q1.length) := fun k => by have := hL.2 k; cases this
      have e0 : q0 = [] := List.length_eq_zero_iff.1 (by omega)
      have e1 : q1 = [] := List.length_eq_zero_iff.1 (by omega)
      subst e0 e1
      obtain ⟨⟨d1, d2⟩, d3, d4⟩ := HP.out.done
      clear hL hz Hmu
      go_wp2_with fail
      go_loopg [17] 2 (fun kx s17 wq => ∃ k : Nat, s17 = .int .i64 k ∧ k + kx = 2 ∧ Hid (Ag w h0 h1 n0 n1 v0 v1 [] [] wq))
      case atStart => exact ⟨0, rfl, rfl, HA⟩
      case round =>
        clear HA
        obtain ⟨k, rfl, hk2, HA⟩ := hrel
        have z0 := HA.out.H0
        have z1 := HA.out.H1
        have z2 := HA.out.H2
        have z3 := HA.out.H3
        have z4 := HA.out.H4
        have z5 := HA.out.H5
        have z6 := HA.out.H6
        have z7 := HA.out.H7
        rw [d1] at z0
        rw [d2] at z1
        rw [d3] at z4
        rw [d4] at z5
        have hkk : k = 0 ∨ k = 1 ∨ k = 2 := by omega
        rcases hkk with rfl | rfl | rfl
        · go_upto_region 29 with fail
          go_quiet (fail)
          have HA' : Hid (Ag w h0 h1 n0 n1 v0 v1 [] [] (wr.drewN nq)) := HA.out.below (below_drewN (Below.refl _ _) nq)
          generalize wr.drewN nq = wz at HA' ⊢
          clear HA z0 z1 z2 z3 z4 z5 z6 z7
          go_wp2_with fail
          go_roundg 1
          case measure => omega
          case rel => exact ⟨1, by go_num, by omega, HA'⟩
        · go_upto_region 29 with fail
          go_quiet (fail)
          have HA' : Hid (Ag w h0 h1 n0 n1 v0 v1 [] [] (wr.drewN nq)) := HA.out.below (below_drewN (Below.refl _ _) nq)
          generalize wr.drewN nq = wz at HA' ⊢
          clear HA z0 z1 z2 z3 z4 z5 z6 z7
          go_wp2_with fail
          go_roundg 0
          case measure => omega
          case rel => exact ⟨2, by go_num, by omega, HA'⟩
        · have cW := wakes_any wr (HU.out.below HA.out.bl)
          go_wp2_with (first
            | (go_at_call 12; refine cW.mono ?_; clear cW; rintro e w5 ⟨rfl, hb5⟩; have b5 := HA.out.bl.trans (hb5.mono HA.out.bl.size)))
          simp [bodyPost, results, Tryd.results4, go_sem]
          exact b5
    | true =>
      subst ev0 ev1
      obtain ⟨X, hX⟩ : ∃ X, bits .and .i64 (i : Int) 1 = X := ⟨_, rfl⟩
      have HX : Hid (X = ((i % 2 : Nat) : Int)) := by rw [← hX]; exact and_nat i (by omega)
      have hgs : w.heap.size + 4 ≤ wr.heap.size := HA.out.tz
      go_upto_region 9 with fail
      go_cut [49] from 19 to 142 (fun s49 wx => ∃ M : Bool, s49 = .bool M ∧ (M = true ↔ i < min n 300) ∧ wx = wr.alloc (.cells #[.int .i64 X, .int .i64 0] 46))
      case first =>
        by_cases hA : i < n
        · have hA' : (i : Int) < (n : Int) := by omega
          by_cases hB : i < 300
          · have hB' : (i : Int) < 300 := by omega
            go_wp2_with fail
            go_meet
            exact ⟨true, rfl, ⟨fun _ => by omega, fun _ => rfl⟩, rfl⟩
          · have hB' : ¬ ((i : Int) < 300) := by omega
            go_wp2_with fail
            go_meet
            exact ⟨false, rfl, ⟨(fun h => by cases h), fun h => by omega⟩, rfl⟩
        · have hA' : ¬ ((i : Int) < (n : Int)) := by omega
          go_wp2_with fail
          go_meet
          exact ⟨false, rfl, ⟨(fun h => by cases h), fun h => by omega⟩, rfl⟩
      case rest =>
      obtain ⟨M, rfl, hM, rfl⟩ := hcut
      go_upto_if 49 with fail
      go_cut [9] from 19 to 142 (fun _ wx => ∃ e d : Int, Hid (wx.heap[wr.heap.size]? = some (.cells #[.int .i64 e, .int .i64 d] 46 (0, 0))) ∧ Hid (Ag w h0 h1 n0 n1 (.slice a0 q0.length c0) (.slice a1 q1.length c1) q0 q1 wx) ∧ (i < min n 300 ∨ (e = X ∧ d = 0 ∧ 0 < q0.length + q1.length)))
      case first =>
        cases M with
        | true =>
          have hin : i < min n 300 := hM.1 rfl
          have hA' : (i : Int) < (n : Int) := by omega
          obtain ⟨b, off, rfl, hce⟩ := HE.out.flat (by omega)
          have hs := ((hce i (by omega)).below HA.out.bl).below (below1 wr (.cells #[.int .i64 X, .int .i64 0] 46))
          have s0 := hs.c0
          have s1 := hs.c1
          have sb : b < wr.heap.size := World.block_lt_of_cell? wr _ ((hce i (by omega)).below HA.out.bl).c0
          generalize (f i).1 = e at *
          generalize (f i).2 = d at *
          clear hce hs hL hM
          go_wp2_with fail
          go_meet
          exact ⟨e, d, alloc_at _ _, HA.out.below (below1 _ _), Or.inl hin⟩
        | false =>
          have hin : ¬ i < min n 300 := fun k => by have := hM.2 k; cases this
          have hto : 0 < q0.length + q1.length := by rcases hL.1 rfl with k | k <;> omega
          go_wp2_with fail
          go_meet
          exact ⟨_, _, alloc_at _ _, HA.out.below (below1 _ _), Or.inr ⟨rfl, rfl, hto⟩⟩
      case rest =>
      clear hM hL HA
      obtain ⟨e, d, HB, HA, hcase⟩ := hcut
      have b0 : wc.cell? ⟨wr.heap.size, 0, none⟩ = some (.int .i64 e) := by rw [cell_of_block HB.out]; rfl
      have b1 : wc.cell? ⟨wr.heap.size, 1, none⟩ = some (.int .i64 d) := by rw [cell_of_block HB.out]; rfl
      have hand := and_one e
      have hpar : Hid (i < min n 300 ∨ (bits .and .i64 e 1 = ((i % 2 : Nat) : Int) ∧ ¬ (1 ≤ d ∧ d ≤ 4) ∧ 0 < q0.length + q1.length)) := hcase.imp id (fun ⟨e1, e2, e3⟩ => ⟨by rw [e1, HX.out, and_nat _ (by omega)]; rw [Nat.mod_mod], by omega, e3⟩)
      clear hcase hX HX
      obtain ⟨K, hK⟩ : ∃ K, bits .and .i64 e 1 = K := ⟨_, rfl⟩
      rw [hK] at hand hpar
      have p0 := HP.out.p0
      have p1 := HP.out.p1
      go_upto_region 12 with fail
      go_cut [64] from 19 to 142 (fun s64 wx => ∃ D : Bool, s64 = .bool D ∧ (D = true ↔ (1 ≤ d ∧ d ≤ 4)) ∧ wx = wc)
      case first =>
        by_cases d1 : 1 ≤ d
        · by_cases d2 : d ≤ 4
          · go_wp2_with fail
            go_meet
            exact ⟨true, rfl, ⟨fun _ => by omega, fun _ => rfl⟩, rfl⟩
          · go_wp2_with fail
            go_meet
            exact ⟨false, rfl, ⟨(fun h => by cases h), fun h => by omega⟩, rfl⟩
        · go_wp2_with fail
          go_meet
          exact ⟨false, rfl, ⟨(fun h => by cases h), fun h => by omega⟩, rfl⟩
      case rest =>
      obtain ⟨D, rfl, hD, ew⟩ := hcut
      obtain rfl := ew.symm
      have HD : Hid (DoAt wc wr.heap.size d) := ⟨e, HB.out⟩
      clear b0 hK HB
      generalize wr.heap.size = gs at *
      cases D with
      | true =>
        obtain ⟨d1, d2⟩ := hD.1 rfl
        obtain ⟨dd, rfl⟩ : ∃ dd : Nat, d = (dd : Int) + 1 := ⟨(d - 1).toNat, by omega⟩
        have hd4 : dd < 4 := by omega
        have hear : i < min n 300 := by
          rcases hpar.out with k | k
          · exact k
          · exact absurd ⟨d1, d2⟩ k.2.1
        clear hD hpar
        rcases hand with rfl | rfl
        · as_aux_lemma =>
          have hP := HP.out.act dd hd4
          have cA := fun w => Act_any h0 (kiT dd) (n0 + 1) w
          generalize actA h0 (kiT dd) (n0 + 1) = r at cA hP
          obtain ⟨⟨t, mm, nn⟩, en⟩ := r
          have he : en = 0 := hP.1
          subst he
          unfold actV hfv hfc at cA
          simp only at cA
          have HP2 : Hid (Pz t h1 q0 (pushQ q1 mm nn) (n0 + 1) n1) := hP.2
          clear hP
          have x0 := HA.out.N0
          have x1 := HA.out.NF 0
          have A3 := HA.out.setN0 (n0 + 1)
          have D3 : DoAt (wc.setCell ⟨w.heap.size + 2, 0, none⟩ (.int .u64 (n0 + 1))) gs ((dd : Int) + 1) := HD.out.cell (show gs ≠ w.heap.size + 2 by omega)
          go_upto_region 14 with fail
          clear x0 x1 b1
          generalize wc.setCell ⟨w.heap.size + 2, 0, none⟩ (.int .u64 (n0 + 1)) = w3 at A3 D3 ⊢
          clear HA HD
          go_cut [10, 11, 12, 13] from 19 to 142 (fun s10 s11 s12 s13 wx => ∃ g : Nat, s10 = .pointer (some ⟨g, 0, none⟩) ∧ s11 = .int .i64 mm ∧ s12 = .int .u64 nn ∧ s13 = .int .i64 0 ∧ Hid (Ag w h0 h1 (n0 + 1) n1 (.slice a0 q0.length c0) (.slice a1 q1.length c1) q0 q1 wx) ∧ Hid (HfAt wx g t))
          case first =>
            refine wp_region_lx (fun w' => (Ag w h0 h1 (n0 + 1) n1 (.slice a0 q0.length c0) (.slice a1 q1.length c1) q0 q1 w' ∧ DoAt w' gs ((dd : Int) + 1))) [] 23 (by kernel_rfl) (by kernel_rfl) ?_
            have HW : (Ag w h0 h1 (n0 + 1) n1 (.slice a0 q0.length c0) (.slice a1 q1.length c1) q0 q1 w3.drew ∧ DoAt w3.drew gs ((dd : Int) + 1)) := ⟨A3.below ((Below.refl _ _).drew), D3.below ((Below.refl _ _).drew)⟩
            generalize w3.drew = W at HW ⊢
            refine lx_rd 0 ?vA00 (by kernel_rfl) (fun _ _ d _ _ h => by cases d <;> exact h) (by kernel_rfl) HW rfl rfl rfl (fun w' hS => ?hA00) ?_
            case hA00 => first | (go_simp; rfl) | go_simp
            simp only [List.setIfInBounds_toArray, List.set_cons_zero, List.set_cons_succ]
            refine lx_rd 1 (.pointer (some ⟨w.heap.size, 0, none⟩)) (by kernel_rfl) (fun _ _ d _ _ h => by cases d <;> exact h) (by kernel_rfl) HW rfl rfl rfl (fun w' hS => ?hA01) ?_
            case hA01 => first | (go_simp; rfl) | go_simp
            simp only [List.setIfInBounds_toArray, List.set_cons_zero, List.set_cons_succ]
            refine lx_rd 2 (.agg #[.int .i64 h0.o, .int .u64 h0.n, .int .i64 h0.i, .int .u64 h0.m]) (by kernel_rfl) (fun _ _ d _ _ h => by cases d <;> exact h) (by kernel_rfl) HW rfl rfl rfl (fun w' hS => ?hA02) ?_
            case hA02 => have z0 := hS.1.H0; have z1 := hS.1.H1; have z2 := hS.1.H2; have z3 := hS.1.H3; first | (go_simp; rfl) | go_simp
            simp only [List.setIfInBounds_toArray, List.set_cons_zero, List.set_cons_succ]
            refine lx_rd 3 ?vA03 (by kernel_rfl) (fun _ _ d _ _ h => by cases d <;> exact h) (by kernel_rfl) HW rfl rfl rfl (fun w' hS => ?hA03) ?_
            case hA03 => first | (go_simp; rfl) | go_simp
            simp only [List.setIfInBounds_toArray, List.set_cons_zero, List.set_cons_succ]
            refine lx_rd 4 ?vA04 (by kernel_rfl) (fun _ _ d _ _ h => by cases d <;> exact h) (by kernel_rfl) HW rfl rfl rfl (fun w' hS => ?hA04) ?_
            case hA04 => first | (go_simp; rfl) | go_simp
            simp only [List.setIfInBounds_toArray, List.set_cons_zero, List.set_cons_succ]
            refine lx_rd 5 (.int .i64 ((dd : Int) + 1)) (by kernel_rfl) (fun _ _ d _ _ h => by cases d <;> exact h) (by kernel_rfl) HW rfl rfl rfl (fun w' hS => ?hA05) ?_
            case hA05 => have z0 := hS.2.c1; first | (go_simp; rfl) | go_simp
            simp only [List.setIfInBounds_toArray, List.set_cons_zero, List.set_cons_succ]
            refine lx_rd 6 (.int .i64 (dd : Int)) (by kernel_rfl) (fun _ _ d _ _ h => by cases d <;> exact h) (by kernel_rfl) HW rfl rfl rfl (fun w' hS => ?hA06) ?_
            case hA06 => have z0 := wrd dd hd4; first | (go_simp; rfl) | go_simp
            simp only [List.setIfInBounds_toArray, List.set_cons_zero, List.set_cons_succ]
            refine lx_rd 7 (.pointer (some ⟨w.heap.size + 3, dd, none⟩)) (by kernel_rfl) (fun _ _ d _ _ h => by cases d <;> exact h) (by kernel_rfl) HW rfl rfl rfl (fun w' hS => ?hA07) ?_
            case hA07 => have hz4 : (dd : Int) < 4 := (by omega); first | (go_simp; rfl) | go_simp
            simp only [List.setIfInBounds_toArray, List.set_cons_zero, List.set_cons_succ]
            refine lx_rd 8 (.int .i64 (kiT dd)) (by kernel_rfl) (fun _ _ d _ _ h => by cases d <;> exact h) (by kernel_rfl) HW rfl rfl rfl (fun w' hS => ?hA08) ?_
            case hA08 => have z0 := hS.1.K dd hd4; first | (go_simp; rfl) | go_simp
            simp only [List.setIfInBounds_toArray, List.set_cons_zero, List.set_cons_succ]
            refine lx_rd 9 ?vA09 (by kernel_rfl) (fun _ _ d _ _ h => by cases d <;> exact h) (by kernel_rfl) HW rfl rfl rfl (fun w' hS => ?hA09) ?_
            case hA09 => first | (go_simp; rfl) | go_simp
            simp only [List.setIfInBounds_toArray, List.set_cons_zero, List.set_cons_succ]
            refine lx_rd 10 (.pointer (some ⟨w.heap.size + 2, 0, none⟩)) (by kernel_rfl) (fun _ _ d _ _ h => by cases d <;> exact h) (by kernel_rfl) HW rfl rfl rfl (fun w' hS => ?hA010) ?_
            case hA010 => first | (go_simp; rfl) | go_simp
            simp only [List.setIfInBounds_toArray, List.set_cons_zero, List.set_cons_succ]
            refine lx_rd 11 (.int .u64 (n0 + 1)) (by kernel_rfl) (fun _ _ d _ _ h => by cases d <;> exact h) (by kernel_rfl) HW rfl rfl rfl (fun w' hS => ?hA011) ?_
            case hA011 => have z0 := hS.1.N0; first | (go_simp; rfl) | go_simp
            simp only [List.setIfInBounds_toArray, List.set_cons_zero, List.set_cons_succ]
            refine lx_two 12 18 (by kernel_rfl) ?_ ?_
            · as_aux_lemma =>
                refine stepT_call 8 ?cA01 rfl rfl rfl ?dA01 ?_
                case dA01 => first | (go_simp; rfl) | go_simp
                refine (cA W).mono ?_
                rintro e w5 ⟨rfl, hb1⟩
                have HWc : (Ag w h0 h1 (n0 + 1) n1 (.slice a0 q0.length c0) (.slice a1 q1.length c1) q0 q1 w5 ∧ DoAt w5 gs ((dd : Int) + 1)) := ⟨HW.1.below hb1, HW.2.below hb1⟩
                refine ⟨_, rfl, fun _ => HWc, ?_⟩
                simp only [List.setIfInBounds_toArray, List.set_cons_zero, List.set_cons_succ]
                refine lx_rd 13 ?vA0a13 (by kernel_rfl) (fun _ _ d _ _ h => by cases d <;> exact h) (by kernel_rfl) HWc rfl rfl rfl (fun w' hS => ?hA0a13) ?_
                case hA0a13 => first | (go_simp; rfl) | go_simp
                simp only [List.setIfInBounds_toArray, List.set_cons_zero, List.set_cons_succ]
                refine lx_rd 14 ?vA0a14 (by kernel_rfl) (fun _ _ d _ _ h => by cases d <;> exact h) (by kernel_rfl) HWc rfl rfl rfl (fun w' hS => ?hA0a14) ?_
                case hA0a14 => first | (go_simp; rfl) | go_simp
                simp only [List.setIfInBounds_toArray, List.set_cons_zero, List.set_cons_succ]
                refine lx_rd 15 ?vA0a15 (by kernel_rfl) (fun _ _ d _ _ h => by cases d <;> exact h) (by kernel_rfl) HWc rfl rfl rfl (fun w' hS => ?hA0a15) ?_
                case hA0a15 => first | (go_simp; rfl) | go_simp
                simp only [List.setIfInBounds_toArray, List.set_cons_zero, List.set_cons_succ]
                refine lx_rd 16 ?vA0a16 (by kernel_rfl) (fun _ _ d _ _ h => by cases d <;> exact h) (by kernel_rfl) HWc rfl rfl rfl (fun w' hS => ?hA0a16) ?_
                case hA0a16 => first | (go_simp; rfl) | go_simp
                simp only [List.setIfInBounds_toArray, List.set_cons_zero, List.set_cons_succ]
                refine lx_rd 17 ?vA0a17 (by kernel_rfl) (fun _ _ d _ _ h => by cases d <;> exact h) (by kernel_rfl) HWc rfl rfl rfl (fun w' hS => ?hA0a17) ?_
                case hA0a17 => first | (go_simp; rfl) | go_simp
                simp only [List.setIfInBounds_toArray, List.set_cons_zero, List.set_cons_succ]
                refine lx_one 18 (by kernel_rfl) ?_
                have hb2 := below1 w5 (.cells #[.int .i64 0, .int .u64 0, .int .i64 0, .int .u64 0] 24)
                have HWca : (Ag w h0 h1 (n0 + 1) n1 (.slice a0 q0.length c0) (.slice a1 q1.length c1) q0 q1 (w5.alloc (.cells #[.int .i64 0, .int .u64 0, .int .i64 0, .int .u64 0] 24)) ∧ DoAt (w5.alloc (.cells #[.int .i64 0, .int .u64 0, .int .i64 0, .int .u64 0] 24)) gs ((dd : Int) + 1)) := ⟨HWc.1.below hb2, HWc.2.below hb2⟩
                have G2 : HfAt (w5.alloc (.cells #[.int .i64 0, .int .u64 0, .int .i64 0, .int .u64 0] 24)) w5.heap.size ⟨0, 0, 0, 0⟩ := push_at _ _ rfl
                have gl : w.heap.size + 4 ≤ w5.heap.size := HWc.1.tz
                have go0 := HWc.1.out0 (Nat.le_refl w5.heap.size)
                have go1 := HWc.1.out1 (Nat.le_refl w5.heap.size)
                have go2 := HWc.2.lt
                refine stepT_val (w' := w5.alloc (.cells #[.int .i64 0, .int .u64 0, .int .i64 0, .int .u64 0] 24)) (.pointer (some ⟨w5.heap.size, 0, none⟩)) rfl rfl rfl ?dA02 (fun _ => HWca) ?_
                case dA02 => first | (go_simp; rfl) | go_simp
                simp only [List.setIfInBounds_toArray, List.set_cons_zero, List.set_cons_succ]
                have R2 : (Ag w h0 h1 (n0 + 1) n1 (.slice a0 q0.length c0) (.slice a1 q1.length c1) q0 q1 ((w5.alloc (.cells #[.int .i64 0, .int .u64 0, .int .i64 0, .int .u64 0] 24)).setRow w5.heap.size (hfc t)) ∧ DoAt ((w5.alloc (.cells #[.int .i64 0, .int .u64 0, .int .i64 0, .int .u64 0] 24)).setRow w5.heap.size (hfc t)) gs ((dd : Int) + 1)) := ⟨HWca.1.row G2 t gl go0 go1, HWca.2.row (by omega)⟩
                have G9 : HfAt ((w5.alloc (.cells #[.int .i64 0, .int .u64 0, .int .i64 0, .int .u64 0] 24)).setRow w5.heap.size (hfc t)) w5.heap.size t := G2.set t
                refine lx_one 19 (by kernel_rfl) (stepT_store (w' := (w5.alloc (.cells #[.int .i64 0, .int .u64 0, .int .i64 0, .int .u64 0] 24)).setRow w5.heap.size (hfc t)) rfl rfl rfl ?sA01 (fun _ => R2) ?_)
                case sA01 => exact exec_store_half (.tmp 10) (.tmp 84) rfl w5.heap.size rfl t rfl _ G2
                generalize (w5.alloc (.cells #[.int .i64 0, .int .u64 0, .int .i64 0, .int .u64 0] 24)).setRow w5.heap.size (hfc t) = WY at R2 G9 ⊢
                refine lx_one 20 (by kernel_rfl) (stepT_val (w' := WY) (.int .i64 mm) rfl rfl rfl ?xA010 (fun _ => R2) ?_)
                case xA010 => first | (go_simp; rfl) | (go_simp; done)
                simp only [List.setIfInBounds_toArray, List.set_cons_zero, List.set_cons_succ]
                refine lx_one 21 (by kernel_rfl) (stepT_val (w' := WY) (.int .u64 nn) rfl rfl rfl ?xA011 (fun _ => R2) ?_)
                case xA011 => first | (go_simp; rfl) | (go_simp; done)
                simp only [List.setIfInBounds_toArray, List.set_cons_zero, List.set_cons_succ]
                refine lx_one 22 (by kernel_rfl) (stepT_val (w' := WY) (.int .i64 0) rfl rfl rfl ?xA012 (fun _ => R2) ?_)
                case xA012 => first | (go_simp; rfl) | (go_simp; done)
                simp only [List.setIfInBounds_toArray, List.set_cons_zero, List.set_cons_succ]
                refine lx_nil (by kernel_rfl) ?_
                go_wp2_with fail
                go_meet
                exact ⟨w5.heap.size, rfl, rfl, rfl, rfl, R2.1, G9⟩
            · as_aux_lemma =>
                have hb3 := below1 W (.cells #[.int .i64 0, .int .u64 0, .int .i64 0, .int .u64 0] 24)
                have HWa : (Ag w h0 h1 (n0 + 1) n1 (.slice a0 q0.length c0) (.slice a1 q1.length c1) q0 q1 (W.alloc (.cells #[.int .i64 0, .int .u64 0, .int .i64 0, .int .u64 0] 24)) ∧ DoAt (W.alloc (.cells #[.int .i64 0, .int .u64 0, .int .i64 0, .int .u64 0] 24)) gs ((dd : Int) + 1)) := ⟨HW.1.below hb3, HW.2.below hb3⟩
                have G3 : HfAt (W.alloc (.cells #[.int .i64 0, .int .u64 0, .int .i64 0, .int .u64 0] 24)) W.heap.size ⟨0, 0, 0, 0⟩ := push_at _ _ rfl
                have gl : w.heap.size + 4 ≤ W.heap.size := HW.1.tz
                have go0 := HW.1.out0 (Nat.le_refl W.heap.size)
                have go1 := HW.1.out1 (Nat.le_refl W.heap.size)
                have go2 := HW.2.lt
                refine stepT_val (w' := W.alloc (.cells #[.int .i64 0, .int .u64 0, .int .i64 0, .int .u64 0] 24)) (.pointer (some ⟨W.heap.size, 0, none⟩)) rfl rfl rfl ?dA03 (fun _ => HWa) ?_
                case dA03 => first | (go_simp; rfl) | go_simp
                simp only [List.setIfInBounds_toArray, List.set_cons_zero, List.set_cons_succ]
                refine lx_one 12 (by kernel_rfl) ?_
                refine stepT_call 8 ?cA04 rfl rfl rfl ?dA04 ?_
                case dA04 => first | (go_simp; rfl) | go_simp
                refine (cA (W.alloc (.cells #[.int .i64 0, .int .u64 0, .int .i64 0, .int .u64 0] 24))).mono ?_
                rintro e w6 ⟨rfl, hb4⟩
                have HWac : (Ag w h0 h1 (n0 + 1) n1 (.slice a0 q0.length c0) (.slice a1 q1.length c1) q0 q1 w6 ∧ DoAt w6 gs ((dd : Int) + 1)) := ⟨HWa.1.below hb4, HWa.2.below hb4⟩
                refine ⟨_, rfl, fun _ => HWac, ?_⟩
                simp only [List.setIfInBounds_toArray, List.set_cons_zero, List.set_cons_succ]
                have G4 : HfAt w6 W.heap.size ⟨0, 0, 0, 0⟩ := G3.below hb4 G3.lt
                refine lx_rd 13 ?vA0b13 (by kernel_rfl) (fun _ _ d _ _ h => by cases d <;> exact h) (by kernel_rfl) HWac rfl rfl rfl (fun w' hS => ?hA0b13) ?_
                case hA0b13 => first | (go_simp; rfl) | go_simp
                simp only [List.setIfInBounds_toArray, List.set_cons_zero, List.set_cons_succ]
                refine lx_rd 14 ?vA0b14 (by kernel_rfl) (fun _ _ d _ _ h => by cases d <;> exact h) (by kernel_rfl) HWac rfl rfl rfl (fun w' hS => ?hA0b14) ?_
                case hA0b14 => first | (go_simp; rfl) | go_simp
                simp only [List.setIfInBounds_toArray, List.set_cons_zero, List.set_cons_succ]
                refine lx_rd 15 ?vA0b15 (by kernel_rfl) (fun _ _ d _ _ h => by cases d <;> exact h) (by kernel_rfl) HWac rfl rfl rfl (fun w' hS => ?hA0b15) ?_
                case hA0b15 => first | (go_simp; rfl) | go_simp
                simp only [List.setIfInBounds_toArray, List.set_cons_zero, List.set_cons_succ]
                refine lx_rd 16 ?vA0b16 (by kernel_rfl) (fun _ _ d _ _ h => by cases d <;> exact h) (by kernel_rfl) HWac rfl rfl rfl (fun w' hS => ?hA0b16) ?_
                case hA0b16 => first | (go_simp; rfl) | go_simp
                simp only [List.setIfInBounds_toArray, List.set_cons_zero, List.set_cons_succ]
                refine lx_rd 17 ?vA0b17 (by kernel_rfl) (fun _ _ d _ _ h => by cases d <;> exact h) (by kernel_rfl) HWac rfl rfl rfl (fun w' hS => ?hA0b17) ?_
                case hA0b17 => first | (go_simp; rfl) | go_simp
                simp only [List.setIfInBounds_toArray, List.set_cons_zero, List.set_cons_succ]
                have R2 : (Ag w h0 h1 (n0 + 1) n1 (.slice a0 q0.length c0) (.slice a1 q1.length c1) q0 q1 (w6.setRow W.heap.size (hfc t)) ∧ DoAt (w6.setRow W.heap.size (hfc t)) gs ((dd : Int) + 1)) := ⟨HWac.1.row G4 t gl go0 go1, HWac.2.row (by omega)⟩
                have G9 : HfAt (w6.setRow W.heap.size (hfc t)) W.heap.size t := G4.set t
                refine lx_one 19 (by kernel_rfl) (stepT_store (w' := w6.setRow W.heap.size (hfc t)) rfl rfl rfl ?sA02 (fun _ => R2) ?_)
                case sA02 => exact exec_store_half (.tmp 10) (.tmp 84) rfl W.heap.size rfl t rfl _ G4
                generalize w6.setRow W.heap.size (hfc t) = WY at R2 G9 ⊢
                refine lx_one 20 (by kernel_rfl) (stepT_val (w' := WY) (.int .i64 mm) rfl rfl rfl ?xA020 (fun _ => R2) ?_)
                case xA020 => first | (go_simp; rfl) | (go_simp; done)
                simp only [List.setIfInBounds_toArray, List.set_cons_zero, List.set_cons_succ]
                refine lx_one 21 (by kernel_rfl) (stepT_val (w' := WY) (.int .u64 nn) rfl rfl rfl ?xA021 (fun _ => R2) ?_)
                case xA021 => first | (go_simp; rfl) | (go_simp; done)
                simp only [List.setIfInBounds_toArray, List.set_cons_zero, List.set_cons_succ]
                refine lx_one 22 (by kernel_rfl) (stepT_val (w' := WY) (.int .i64 0) rfl rfl rfl ?xA022 (fun _ => R2) ?_)
                case xA022 => first | (go_simp; rfl) | (go_simp; done)
                simp only [List.setIfInBounds_toArray, List.set_cons_zero, List.set_cons_succ]
                refine lx_nil (by kernel_rfl) ?_
                go_wp2_with fail
                go_meet
                exact ⟨W.heap.size, rfl, rfl, rfl, rfl, R2.1, G9⟩
          case rest =>
            clear A3 D3 cA
            obtain ⟨g, rfl, rfl, rfl, rfl, HA, HG⟩ := hcut
            have z0 := HG.out.c0
            have z1 := HG.out.c1
            have z2 := HG.out.c2
            have z3 := HG.out.c3
            by_cases hmm : mm = 0
            · have hm1 : (mm != 0) = false := by simpa using hmm
              rw [show pushQ q1 mm nn = q1 from if_pos hmm] at HP2
              clear hmm
              go_wp2_with (first
                | (refine wpList_store_mid rfl 24 (.tmp 92) (.tmp 91) rfl w.heap.size 0 (hfc t) rfl rfl (there_half HA.out 0 (by omega)) (by rw [infoHalf]; rfl) (hfc_one t) ?_; have A5 : Hid (Ag w t h1 (n0 + 1) n1 (.slice a0 q0.length c0) (.slice a1 q1.length c1) q0 q1 _) := HA.out.setH0 t; generalize wc.setCells w.heap.size 0 (hfc t).toList = w5 at A5 ⊢))
              go_roundg (mu (min n 300) (i + 1) q0.length q1.length)
              case measure => rw [← Hmu.out]; exact mu_early hear (by omega)
              case rel => exact ⟨i + 1, _, _, _, _, _, _, q0, q1, by go_num, rfl, by have := mu_early (a := q0.length) (b := q1.length) (a' := q0.length) (b' := q1.length) hear (by omega); rw [Hmu.out] at this; omega, by omega, by omega, by omega, A5, HP2⟩
            · have hm1 : (mm != 0) = true := by simpa using hmm
              rw [show pushQ q1 mm nn = q1 ++ [(mm, nn)] from if_neg hmm] at HP2
              clear hmm
              go_wp2_with (first
                | (refine wpList_store_mid rfl 24 (.tmp 92) (.tmp 91) rfl w.heap.size 0 (hfc t) rfl rfl (there_half HA.out 0 (by omega)) (by rw [infoHalf]; rfl) (hfc_one t) ?_; have A5 : Hid (Ag w t h1 (n0 + 1) n1 (.slice a0 q0.length c0) (.slice a1 q1.length c1) q0 q1 _) := HA.out.setH0 t; generalize wc.setCells w.heap.size 0 (hfc t).toList = w5 at A5 ⊢; have x0 := A5.out.V1)
                | (refine wp_appQ rfl (.tmp 100) (.tmp 104) rfl rfl A5.out.u1 (mm, nn) rfl A5.out.tz (by omega) ?_; intro v' w6 Q6 k6 o6; obtain ⟨a6, c6, rfl, _⟩ := Q6.ex; have hp := A5.out.push1 Q6 k6 o6; rw [show (q1 ++ [(mm, nn)]).length = q1.length + 1 from by simp] at hp; have x1 : w6.cell? ⟨w.heap.size + 1, 1, none⟩ = some (.slice a1 q1.length c1) := (cell_of_block hp.1 _).trans rfl; have x2 : w6.frozen? ⟨w.heap.size + 1, 1, none⟩ = false := unfrozen_of_block hp.1 _; have A6 : Hid (Ag w _ _ _ _ _ _ _ _ _) := hp.2; clear hp))
              go_roundg (mu (min n 300) (i + 1) q0.length (q1 ++ [(mm, nn)]).length)
              case measure => rw [← Hmu.out]; exact mu_early hear (by rw [List.length_append]; simp only [List.length_cons, List.length_nil]; omega)
              case rel => exact ⟨i + 1, _, _, _, _, _, _, q0, (q1 ++ [(mm, nn)]), by go_num, rfl, by have := mu_early (a := q0.length) (b := q1.length) (a' := q0.length) (b' := (q1 ++ [(mm, nn)]).length) hear (by rw [List.length_append]; simp only [List.length_cons, List.length_nil]; omega); rw [Hmu.out] at this; omega, by omega, by omega, by rw [List.length_append]; simp only [List.length_cons, List.length_nil]; omega, A6, HP2⟩
        · as_aux_lemma =>
          have hP := HP.out.swap.act dd hd4
          have cA := fun w => Act_any h1 (kiT dd) (n1 + 1) w
          generalize actA h1 (kiT dd) (n1 + 1) = r at cA hP
          obtain ⟨⟨t, mm, nn⟩, en⟩ := r
          have he : en = 0 := hP.1
          subst he
          unfold actV hfv hfc at cA
          simp only at cA
          have HP2 : Hid (Pz h0 t (pushQ q0 mm nn) q1 n0 (n1 + 1)) := hP.2.swap
          clear hP
          have x0 := HA.out.N1
          have x1 := HA.out.NF 1
          have A3 := HA.out.setN1 (n1 + 1)
          have D3 : DoAt (wc.setCell ⟨w.heap.size + 2, 1, none⟩ (.int .u64 (n1 + 1))) gs ((dd : Int) + 1) := HD.out.cell (show gs ≠ w.heap.size + 2 by omega)
          go_upto_region 14 with fail
          clear x0 x1 b1
          generalize wc.setCell ⟨w.heap.size + 2, 1, none⟩ (.int .u64 (n1 + 1)) = w3 at A3 D3 ⊢
          clear HA HD
          go_cut [10, 11, 12, 13] from 19 to 142 (fun s10 s11 s12 s13 wx => ∃ g : Nat, s10 = .pointer (some ⟨g, 0, none⟩) ∧ s11 = .int .i64 mm ∧ s12 = .int .u64 nn ∧ s13 = .int .i64 0 ∧ Hid (Ag w h0 h1 n0 (n1 + 1) (.slice a0 q0.length c0) (.slice a1 q1.length c1) q0 q1 wx) ∧ Hid (HfAt wx g t))
          case first =>
            refine wp_region_lx (fun w' => (Ag w h0 h1 n0 (n1 + 1) (.slice a0 q0.length c0) (.slice a1 q1.length c1) q0 q1 w' ∧ DoAt w' gs ((dd : Int) + 1))) [] 23 (by kernel_rfl) (by kernel_rfl) ?_
            have HW : (Ag w h0 h1 n0 (n1 + 1) (.slice a0 q0.length c0) (.slice a1 q1.length c1) q0 q1 w3.drew ∧ DoAt w3.drew gs ((dd : Int) + 1)) := ⟨A3.below ((Below.refl _ _).drew), D3.below ((Below.refl _ _).drew)⟩
            generalize w3.drew = W at HW ⊢
            refine lx_rd 0 ?vA10 (by kernel_rfl) (fun _ _ d _ _ h => by cases d <;> exact h) (by kernel_rfl) HW rfl rfl rfl (fun w' hS => ?hA10) ?_
            case hA10 => first | (go_simp; rfl) | go_simp
            simp only [List.setIfInBounds_toArray, List.set_cons_zero, List.set_cons_succ]
            refine lx_rd 1 (.pointer (some ⟨w.heap.size, 4, none⟩)) (by kernel_rfl) (fun _ _ d _ _ h => by cases d <;> exact h) (by kernel_rfl) HW rfl rfl rfl (fun w' hS => ?hA11) ?_
            case hA11 => first | (go_simp; rfl) | go_simp
            simp only [List.setIfInBounds_toArray, List.set_cons_zero, List.set_cons_succ]
            refine lx_rd 2 (.agg #[.int .i64 h1.o, .int .u64 h1.n, .int .i64 h1.i, .int .u64 h1.m]) (by kernel_rfl) (fun _ _ d _ _ h => by cases d <;> exact h) (by kernel_rfl) HW rfl rfl rfl (fun w' hS => ?hA12) ?_
            case hA12 => have z0 := hS.1.H4; have z1 := hS.1.H5; have z2 := hS.1.H6; have z3 := hS.1.H7; first | (go_simp; rfl) | go_simp
            simp only [List.setIfInBounds_toArray, List.set_cons_zero, List.set_cons_succ]
            refine lx_rd 3 ?vA13 (by kernel_rfl) (fun _ _ d _ _ h => by cases d <;> exact h) (by kernel_rfl) HW rfl rfl rfl (fun w' hS => ?hA13) ?_
            case hA13 => first | (go_simp; rfl) | go_simp
            simp only [List.setIfInBounds_toArray, List.set_cons_zero, List.set_cons_succ]
            refine lx_rd 4 ?vA14 (by kernel_rfl) (fun _ _ d _ _ h => by cases d <;> exact h) (by kernel_rfl) HW rfl rfl rfl (fun w' hS => ?hA14) ?_
            case hA14 => first | (go_simp; rfl) | go_simp
            simp only [List.setIfInBounds_toArray, List.set_cons_zero, List.set_cons_succ]
            refine lx_rd 5 (.int .i64 ((dd : Int) + 1)) (by kernel_rfl) (fun _ _ d _ _ h => by cases d <;> exact h) (by kernel_rfl) HW rfl rfl rfl (fun w' hS => ?hA15) ?_
            case hA15 => have z0 := hS.2.c1; first | (go_simp; rfl) | go_simp
            simp only [List.setIfInBounds_toArray, List.set_cons_zero, List.set_cons_succ]
            refine lx_rd 6 (.int .i64 (dd : Int)) (by kernel_rfl) (fun _ _ d _ _ h => by cases d <;> exact h) (by kernel_rfl) HW rfl rfl rfl (fun w' hS => ?hA16) ?_
            case hA16 => have z0 := wrd dd hd4; first | (go_simp; rfl) | go_simp
            simp only [List.setIfInBounds_toArray, List.set_cons_zero, List.set_cons_succ]
            refine lx_rd 7 (.pointer (some ⟨w.heap.size + 3, dd, none⟩)) (by kernel_rfl) (fun _ _ d _ _ h => by cases d <;> exact h) (by kernel_rfl) HW rfl rfl rfl (fun w' hS => ?hA17) ?_
            case hA17 => have hz4 : (dd : Int) < 4 := (by omega); first | (go_simp; rfl) | go_simp
            simp only [List.setIfInBounds_toArray, List.set_cons_zero, List.set_cons_succ]
            refine lx_rd 8 (.int .i64 (kiT dd)) (by kernel_rfl) (fun _ _ d _ _ h => by cases d <;> exact h) (by kernel_rfl) HW rfl rfl rfl (fun w' hS => ?hA18) ?_
            case hA18 => have z0 := hS.1.K dd hd4; first | (go_simp; rfl) | go_simp
            simp only [List.setIfInBounds_toArray, List.set_cons_zero, List.set_cons_succ]
            refine lx_rd 9 ?vA19 (by kernel_rfl) (fun _ _ d _ _ h => by cases d <;> exact h) (by kernel_rfl) HW rfl rfl rfl (fun w' hS => ?hA19) ?_
            case hA19 => first | (go_simp; rfl) | go_simp
            simp only [List.setIfInBounds_toArray, List.set_cons_zero, List.set_cons_succ]
            refine lx_rd 10 (.pointer (some ⟨w.heap.size + 2, 1, none⟩)) (by kernel_rfl) (fun _ _ d _ _ h => by cases d <;> exact h) (by kernel_rfl) HW rfl rfl rfl (fun w' hS => ?hA110) ?_
            case hA110 => first | (go_simp; rfl) | go_simp
            simp only [List.setIfInBounds_toArray, List.set_cons_zero, List.set_cons_succ]
            refine lx_rd 11 (.int .u64 (n1 + 1)) (by kernel_rfl) (fun _ _ d _ _ h => by cases d <;> exact h) (by kernel_rfl) HW rfl rfl rfl (fun w' hS => ?hA111) ?_
            case hA111 => have z0 := hS.1.N1; first | (go_simp; rfl) | go_simp
            simp only [List.setIfInBounds_toArray, List.set_cons_zero, List.set_cons_succ]
            refine lx_two 12 18 (by kernel_rfl) ?_ ?_
            · as_aux_lemma =>
                refine stepT_call 8 ?cA11 rfl rfl rfl ?dA11 ?_
                case dA11 => first | (go_simp; rfl) | go_simp
                refine (cA W).mono ?_
                rintro e w5 ⟨rfl, hb1⟩
                have HWc : (Ag w h0 h1 n0 (n1 + 1) (.slice a0 q0.length c0) (.slice a1 q1.length c1) q0 q1 w5 ∧ DoAt w5 gs ((dd : Int) + 1)) := ⟨HW.1.below hb1, HW.2.below hb1⟩
                refine ⟨_, rfl, fun _ => HWc, ?_⟩
                simp only [List.setIfInBounds_toArray, List.set_cons_zero, List.set_cons_succ]
                refine lx_rd 13 ?vA1a13 (by kernel_rfl) (fun _ _ d _ _ h => by cases d <;> exact h) (by kernel_rfl) HWc rfl rfl rfl (fun w' hS => ?hA1a13) ?_
                case hA1a13 => first | (go_simp; rfl) | go_simp
                simp only [List.setIfInBounds_toArray, List.set_cons_zero, List.set_cons_succ]
                refine lx_rd 14 ?vA1a14 (by kernel_rfl) (fun _ _ d _ _ h => by cases d <;> exact h) (by kernel_rfl) HWc rfl rfl rfl (fun w' hS => ?hA1a14) ?_
                case hA1a14 => first | (go_simp; rfl) | go_simp
                simp only [List.setIfInBounds_toArray, List.set_cons_zero, List.set_cons_succ]
                refine lx_rd 15 ?vA1a15 (by kernel_rfl) (fun _ _ d _ _ h => by cases d <;> exact h) (by kernel_rfl) HWc rfl rfl rfl (fun w' hS => ?hA1a15) ?_
                case hA1a15 => first | (go_simp; rfl) | go_simp
                simp only [List.setIfInBounds_toArray, List.set_cons_zero, List.set_cons_succ]
                refine lx_rd 16 ?vA1a16 (by kernel_rfl) (fun _ _ d _ _ h => by cases d <;> exact h) (by kernel_rfl) HWc rfl rfl rfl (fun w' hS => ?hA1a16) ?_
                case hA1a16 => first | (go_simp; rfl) | go_simp
                simp only [List.setIfInBounds_toArray, List.set_cons_zero, List.set_cons_succ]
                refine lx_rd 17 ?vA1a17 (by kernel_rfl) (fun _ _ d _ _ h => by cases d <;> exact h) (by kernel_rfl) HWc rfl rfl rfl (fun w' hS => ?hA1a17) ?_
                case hA1a17 => first | (go_simp; rfl) | go_simp
                simp only [List.setIfInBounds_toArray, List.set_cons_zero, List.set_cons_succ]
                refine lx_one 18 (by kernel_rfl) ?_
                have hb2 := below1 w5 (.cells #[.int .i64 0, .int .u64 0, .int .i64 0, .int .u64 0] 24)
                have HWca : (Ag w h0 h1 n0 (n1 + 1) (.slice a0 q0.length c0) (.slice a1 q1.length c1) q0 q1 (w5.alloc (.cells #[.int .i64 0, .int .u64 0, .int .i64 0, .int .u64 0] 24)) ∧ DoAt (w5.alloc (.cells #[.int .i64 0, .int .u64 0, .int .i64 0, .int .u64 0] 24)) gs ((dd : Int) + 1)) := ⟨HWc.1.below hb2, HWc.2.below hb2⟩
                have G2 : HfAt (w5.alloc (.cells #[.int .i64 0, .int .u64 0, .int .i64 0, .int .u64 0] 24)) w5.heap.size ⟨0, 0, 0, 0⟩ := push_at _ _ rfl
                have gl : w.heap.size + 4 ≤ w5.heap.size := HWc.1.tz
                have go0 := HWc.1.out0 (Nat.le_refl w5.heap.size)
                have go1 := HWc.1.out1 (Nat.le_refl w5.heap.size)
                have go2 := HWc.2.lt
                refine stepT_val (w' := w5.alloc (.cells #[.int .i64 0, .int .u64 0, .int .i64 0, .int .u64 0] 24)) (.pointer (some ⟨w5.heap.size, 0, none⟩)) rfl rfl rfl ?dA12 (fun _ => HWca) ?_
                case dA12 => first | (go_simp; rfl) | go_simp
                simp only [List.setIfInBounds_toArray, List.set_cons_zero, List.set_cons_succ]
                have R2 : (Ag w h0 h1 n0 (n1 + 1) (.slice a0 q0.length c0) (.slice a1 q1.length c1) q0 q1 ((w5.alloc (.cells #[.int .i64 0, .int .u64 0, .int .i64 0, .int .u64 0] 24)).setRow w5.heap.size (hfc t)) ∧ DoAt ((w5.alloc (.cells #[.int .i64 0, .int .u64 0, .int .i64 0, .int .u64 0] 24)).setRow w5.heap.size (hfc t)) gs ((dd : Int) + 1)) := ⟨HWca.1.row G2 t gl go0 go1, HWca.2.row (by omega)⟩
                have G9 : HfAt ((w5.alloc (.cells #[.int .i64 0, .int .u64 0, .int .i64 0, .int .u64 0] 24)).setRow w5.heap.size (hfc t)) w5.heap.size t := G2.set t
                refine lx_one 19 (by kernel_rfl) (stepT_store (w' := (w5.alloc (.cells #[.int .i64 0, .int .u64 0, .int .i64 0, .int .u64 0] 24)).setRow w5.heap.size (hfc t)) rfl rfl rfl ?sA11 (fun _ => R2) ?_)
                case sA11 => exact exec_store_half (.tmp 10) (.tmp 84) rfl w5.heap.size rfl t rfl _ G2
                generalize (w5.alloc (.cells #[.int .i64 0, .int .u64 0, .int .i64 0, .int .u64 0] 24)).setRow w5.heap.size (hfc t) = WY at R2 G9 ⊢
                refine lx_one 20 (by kernel_rfl) (stepT_val (w' := WY) (.int .i64 mm) rfl rfl rfl ?xA110 (fun _ => R2) ?_)
                case xA110 => first | (go_simp; rfl) | (go_simp; done)
                simp only [List.setIfInBounds_toArray, List.set_cons_zero, List.set_cons_succ]
                refine lx_one 21 (by kernel_rfl) (stepT_val (w' := WY) (.int .u64 nn) rfl rfl rfl ?xA111 (fun _ => R2) ?_)
                case xA111 => first | (go_simp; rfl) | (go_simp; done)
                simp only [List.setIfInBounds_toArray, List.set_cons_zero, List.set_cons_succ]
                refine lx_one 22 (by kernel_rfl) (stepT_val (w' := WY) (.int .i64 0) rfl rfl rfl ?xA112 (fun _ => R2) ?_)
                case xA112 => first | (go_simp; rfl) | (go_simp; done)
                simp only [List.setIfInBounds_toArray, List.set_cons_zero, List.set_cons_succ]
                refine lx_nil (by kernel_rfl) ?_
                go_wp2_with fail
                go_meet
                exact ⟨w5.heap.size, rfl, rfl, rfl, rfl, R2.1, G9⟩
            · as_aux_lemma =>
                have hb3 := below1 W (.cells #[.int .i64 0, .int .u64 0, .int .i64 0, .int .u64 0] 24)
                have HWa : (Ag w h0 h1 n0 (n1 + 1) (.slice a0 q0.length c0) (.slice a1 q1.length c1) q0 q1 (W.alloc (.cells #[.int .i64 0, .int .u64 0, .int .i64 0, .int .u64 0] 24)) ∧ DoAt (W.alloc (.cells #[.int .i64 0, .int .u64 0, .int .i64 0, .int .u64 0] 24)) gs ((dd : Int) + 1)) := ⟨HW.1.below hb3, HW.2.below hb3⟩
                have G3 : HfAt (W.alloc (.cells #[.int .i64 0, .int .u64 0, .int .i64 0, .int .u64 0] 24)) W.heap.size ⟨0, 0, 0, 0⟩ := push_at _ _ rfl
                have gl : w.heap.size + 4 ≤ W.heap.size := HW.1.tz
                have go0 := HW.1.out0 (Nat.le_refl W.heap.size)
                have go1 := HW.1.out1 (Nat.le_refl W.heap.size)
                have go2 := HW.2.lt
                refine stepT_val (w' := W.alloc (.cells #[.int .i64 0, .int .u64 0, .int .i64 0, .int .u64 0] 24)) (.pointer (some ⟨W.heap.size, 0, none⟩)) rfl rfl rfl ?dA13 (fun _ => HWa) ?_
                case dA13 => first | (go_simp; rfl) | go_simp
                simp only [List.setIfInBounds_toArray, List.set_cons_zero, List.set_cons_succ]
                refine lx_one 12 (by kernel_rfl) ?_
                refine stepT_call 8 ?cA14 rfl rfl rfl ?dA14 ?_
                case dA14 => first | (go_simp; rfl) | go_simp
                refine (cA (W.alloc (.cells #[.int .i64 0, .int .u64 0, .int .i64 0, .int .u64 0] 24))).mono ?_
                rintro e w6 ⟨rfl, hb4⟩
                have HWac : (Ag w h0 h1 n0 (n1 + 1) (.slice a0 q0.length c0) (.slice a1 q1.length c1) q0 q1 w6 ∧ DoAt w6 gs ((dd : Int) + 1)) := ⟨HWa.1.below hb4, HWa.2.below hb4⟩
                refine ⟨_, rfl, fun _ => HWac, ?_⟩
                simp only [List.setIfInBounds_toArray, List.set_cons_zero, List.set_cons_succ]
                have G4 : HfAt w6 W.heap.size ⟨0, 0, 0, 0⟩ := G3.below hb4 G3.lt
                refine lx_rd 13 ?vA1b13 (by kernel_rfl) (fun _ _ d _ _ h => by cases d <;> exact h) (by kernel_rfl) HWac rfl rfl rfl (fun w' hS => ?hA1b13) ?_
                case hA1b13 => first | (go_simp; rfl) | go_simp
                simp only [List.setIfInBounds_toArray, List.set_cons_zero, List.set_cons_succ]
                refine lx_rd 14 ?vA1b14 (by kernel_rfl) (fun _ _ d _ _ h => by cases d <;> exact h) (by kernel_rfl) HWac rfl rfl rfl (fun w' hS => ?hA1b14) ?_
                case hA1b14 => first | (go_simp; rfl) | go_simp
                simp only [List.setIfInBounds_toArray, List.set_cons_zero, List.set_cons_succ]
                refine lx_rd 15 ?vA1b15 (by kernel_rfl) (fun _ _ d _ _ h => by cases d <;> exact h) (by kernel_rfl) HWac rfl rfl rfl (fun w' hS => ?hA1b15) ?_
                case hA1b15 => first | (go_simp; rfl) | go_simp
                simp only [List.setIfInBounds_toArray, List.set_cons_zero, List.set_cons_succ]
                refine lx_rd 16 ?vA1b16 (by kernel_rfl) (fun _ _ d _ _ h => by cases d <;> exact h) (by kernel_rfl) HWac rfl rfl rfl (fun w' hS => ?hA1b16) ?_
                case hA1b16 => first | (go_simp; rfl) | go_simp
                simp only [List.setIfInBounds_toArray, List.set_cons_zero, List.set_cons_succ]
                refine lx_rd 17 ?vA1b17 (by kernel_rfl) (fun _ _ d _ _ h => by cases d <;> exact h) (by kernel_rfl) HWac rfl rfl rfl (fun w' hS => ?hA1b17) ?_
                case hA1b17 => first | (go_simp; rfl) | go_simp
                simp only [List.setIfInBounds_toArray, List.set_cons_zero, List.set_cons_succ]
                have R2 : (Ag w h0 h1 n0 (n1 + 1) (.slice a0 q0.length c0) (.slice a1 q1.length c1) q0 q1 (w6.setRow W.heap.size (hfc t)) ∧ DoAt (w6.setRow W.heap.size (hfc t)) gs ((dd : Int) + 1)) := ⟨HWac.1.row G4 t gl go0 go1, HWac.2.row (by omega)⟩
                have G9 : HfAt (w6.setRow W.heap.size (hfc t)) W.heap.size t := G4.set t
                refine lx_one 19 (by kernel_rfl) (stepT_store (w' := w6.setRow W.heap.size (hfc t)) rfl rfl rfl ?sA12 (fun _ => R2) ?_)
                case sA12 => exact exec_store_half (.tmp 10) (.tmp 84) rfl W.heap.size rfl t rfl _ G4
                generalize w6.setRow W.heap.size (hfc t) = WY at R2 G9 ⊢
                refine lx_one 20 (by kernel_rfl) (stepT_val (w' := WY) (.int .i64 mm) rfl rfl rfl ?xA120 (fun _ => R2) ?_)
                case xA120 => first | (go_simp; rfl) | (go_simp; done)
                simp only [List.setIfInBounds_toArray, List.set_cons_zero, List.set_cons_succ]
                refine lx_one 21 (by kernel_rfl) (stepT_val (w' := WY) (.int .u64 nn) rfl rfl rfl ?xA121 (fun _ => R2) ?_)
                case xA121 => first | (go_simp; rfl) | (go_simp; done)
                simp only [List.setIfInBounds_toArray, List.set_cons_zero, List.set_cons_succ]
                refine lx_one 22 (by kernel_rfl) (stepT_val (w' := WY) (.int .i64 0) rfl rfl rfl ?xA122 (fun _ => R2) ?_)
                case xA122 => first | (go_simp; rfl) | (go_simp; done)
                simp only [List.setIfInBounds_toArray, List.set_cons_zero, List.set_cons_succ]
                refine lx_nil (by kernel_rfl) ?_
                go_wp2_with fail
                go_meet
                exact ⟨W.heap.size, rfl, rfl, rfl, rfl, R2.1, G9⟩
          case rest =>
            clear A3 D3 cA
            obtain ⟨g, rfl, rfl, rfl, rfl, HA, HG⟩ := hcut
            have z0 := HG.out.c0
            have z1 := HG.out.c1
            have z2 := HG.out.c2
            have z3 := HG.out.c3
            by_cases hmm : mm = 0
            · have hm1 : (mm != 0) = false := by simpa using hmm
              rw [show pushQ q0 mm nn = q0 from if_pos hmm] at HP2
              clear hmm
              go_wp2_with (first
                | (refine wpList_store_mid rfl 24 (.tmp 92) (.tmp 91) rfl w.heap.size 4 (hfc t) rfl rfl (there_half HA.out 4 (by omega)) (by rw [infoHalf]; rfl) (hfc_one t) ?_; have A5 : Hid (Ag w h0 t n0 (n1 + 1) (.slice a0 q0.length c0) (.slice a1 q1.length c1) q0 q1 _) := HA.out.setH1 t; generalize wc.setCells w.heap.size 4 (hfc t).toList = w5 at A5 ⊢))
              go_roundg (mu (min n 300) (i + 1) q0.length q1.length)
              case measure => rw [← Hmu.out]; exact mu_early hear (by omega)
              case rel => exact ⟨i + 1, _, _, _, _, _, _, q0, q1, by go_num, rfl, by have := mu_early (a := q0.length) (b := q1.length) (a' := q0.length) (b' := q1.length) hear (by omega); rw [Hmu.out] at this; omega, by omega, by omega, by omega, A5, HP2⟩
            · have hm1 : (mm != 0) = true := by simpa using hmm
              rw [show pushQ q0 mm nn = q0 ++ [(mm, nn)] from if_neg hmm] at HP2
              clear hmm
              go_wp2_with (first
                | (refine wpList_store_mid rfl 24 (.tmp 92) (.tmp 91) rfl w.heap.size 4 (hfc t) rfl rfl (there_half HA.out 4 (by omega)) (by rw [infoHalf]; rfl) (hfc_one t) ?_; have A5 : Hid (Ag w h0 t n0 (n1 + 1) (.slice a0 q0.length c0) (.slice a1 q1.length c1) q0 q1 _) := HA.out.setH1 t; generalize wc.setCells w.heap.size 4 (hfc t).toList = w5 at A5 ⊢; have x0 := A5.out.V0)
                | (refine wp_appQ rfl (.tmp 100) (.tmp 104) rfl rfl A5.out.u0 (mm, nn) rfl A5.out.tz (by omega) ?_; intro v' w6 Q6 k6 o6; obtain ⟨a6, c6, rfl, _⟩ := Q6.ex; have hp := A5.out.push0 Q6 k6 o6; rw [show (q0 ++ [(mm, nn)]).length = q0.length + 1 from by simp] at hp; have x1 : w6.cell? ⟨w.heap.size + 1, 0, none⟩ = some (.slice a0 q0.length c0) := (cell_of_block hp.1 _).trans rfl; have x2 : w6.frozen? ⟨w.heap.size + 1, 0, none⟩ = false := unfrozen_of_block hp.1 _; have A6 : Hid (Ag w _ _ _ _ _ _ _ _ _) := hp.2; clear hp))
              go_roundg (mu (min n 300) (i + 1) (q0 ++ [(mm, nn)]).length q1.length)
              case measure => rw [← Hmu.out]; exact mu_early hear (by rw [List.length_append]; simp only [List.length_cons, List.length_nil]; omega)
              case rel => exact ⟨i + 1, _, _, _, _, _, _, (q0 ++ [(mm, nn)]), q1, by go_num, rfl, by have := mu_early (a := q0.length) (b := q1.length) (a' := (q0 ++ [(mm, nn)]).length) (b' := q1.length) hear (by rw [List.length_append]; simp only [List.length_cons, List.length_nil]; omega); rw [Hmu.out] at this; omega, by omega, by omega, by rw [List.length_append]; simp only [List.length_cons, List.length_nil]; omega, A6, HP2⟩
      | false =>
        have hnd : ¬ (1 ≤ d ∧ d ≤ 4) := fun k => by have := hD.2 k; cases this
        clear hD b1
        rcases hand with rfl | rfl
        · cases q0 with
          | nil => as_aux_lemma =>
            have x0 := HA.out.V0
            have hm : mu (min n 300) (i + 1) 0 q1.length < gk := by
              rw [← Hmu.out]
              rcases hpar.out with k | ⟨k1, k2, k3⟩
              · exact mu_early k (by simp)
              · exact mu_skip0 (by omega) (by simpa using k3)
            go_wp2_with fail
            go_roundg (mu (min n 300) (i + 1) 0 q1.length)
            case measure => exact hm
            case rel => exact ⟨i + 1, h0, h1, n0, n1, _, _, [], q1, by go_num, rfl, by omega, by omega, by omega, by simp only [List.length_nil] at hql ⊢; omega, HA, HP⟩
          | cons x q => as_aux_lemma =>
            obtain ⟨g0, off, cap, ev, hcap, hcm, _, _, _⟩ := HA.out.u0.head
            injection ev with ev1 _ ev3
            subst ev1
            obtain rfl := ev3.symm
            replace HA : Hid (Ag w h0 h1 n0 n1 (.slice (some ⟨g0, off, none⟩) (q.length + 1) cap) (.slice a1 q1.length c1) (x :: q) q1 wc) := HA
            have hdF : ∀ w', Ag w h0 h1 n0 n1 (.slice (some ⟨g0, off, none⟩) (q.length + 1) cap) (.slice a1 q1.length c1) (x :: q) q1 w' → w'.cell? ⟨g0, off, none⟩ = some (.int .i64 x.1) ∧ w'.cell? ⟨g0, off + 1, none⟩ = some (.int .u64 x.2) := fun w' A' => by
              obtain ⟨g', off', cap', e', _, _, k0, k1, _⟩ := A'.u0.head
              injection e' with e1 _ _
              injection e1 with e1
              injection e1 with e1 e2 _
              subst e1 e2
              exact ⟨k0, k1⟩
            have hm : mu (min n 300) (i + 1) q.length q1.length < gk := by
              rw [← Hmu.out]
              rcases hpar.out with k | ⟨k1, k2, k3⟩
              · exact mu_early k (by simp only [List.length_cons]; omega)
              · exact mu_hear0 (by omega)
            have hP := HP.out.hear
            have cH := fun w => Hear_any h0 x.1 x.2 w
            generalize hearA h0 x.1 x.2 = r at cH hP
            obtain ⟨⟨t, tl⟩, en⟩ := r
            have he : en = 0 := hP.1
            subst he
            unfold hearV hfv hfc at cH
            simp only at cH
            have HP2 : Hid (Pz t h1 q q1 n0 n1) := hP.2
            clear hP HP
            have hql2 : q.length + q1.length ≤ i := by simp only [List.length_cons] at hql; omega
            have x0 := HA.out.V0
            have hpos : (0 : Int) < (q.length : Int) + 1 := by omega
            go_upto_region 21 with fail
            clear x0 hpos
            go_cut [14, 15, 16] from 19 to 142 (fun s14 _ s16 wx => ∃ g : Nat, s14 = .pointer (some ⟨g, 0, none⟩) ∧ s16 = .int .i64 0 ∧ Hid (Ag w h0 h1 n0 n1 (.slice (some ⟨g0, off, none⟩) (q.length + 1) cap) (.slice a1 q1.length c1) (x :: q) q1 wx) ∧ Hid (HfAt wx g t))
            case first =>
              refine wp_region_lx (fun w' => (Ag w h0 h1 n0 n1 (.slice (some ⟨g0, off, none⟩) (q.length + 1) cap) (.slice a1 q1.length c1) (x :: q) q1 w' ∧ DoAt w' gs d)) [] 24 (by kernel_rfl) (by kernel_rfl) ?_
              have HW : (Ag w h0 h1 n0 n1 (.slice (some ⟨g0, off, none⟩) (q.length + 1) cap) (.slice a1 q1.length c1) (x :: q) q1 wc.drew ∧ DoAt wc.drew gs d) := ⟨HA.out.below ((Below.refl _ _).drew), HD.out.below ((Below.refl _ _).drew)⟩
              generalize wc.drew = W at HW ⊢
              refine lx_rd 0 ?vB00 (by kernel_rfl) (fun _ _ d _ _ h => by cases d <;> exact h) (by kernel_rfl) HW rfl rfl rfl (fun w' hS => ?hB00) ?_
              case hB00 => first | (go_simp; rfl) | go_simp
              simp only [List.setIfInBounds_toArray, List.set_cons_zero, List.set_cons_succ]
              refine lx_rd 1 (.pointer (some ⟨w.heap.size, 0, none⟩)) (by kernel_rfl) (fun _ _ d _ _ h => by cases d <;> exact h) (by kernel_rfl) HW rfl rfl rfl (fun w' hS => ?hB01) ?_
              case hB01 => first | (go_simp; rfl) | go_simp
              simp only [List.setIfInBounds_toArray, List.set_cons_zero, List.set_cons_succ]
              refine lx_rd 2 (.agg #[.int .i64 h0.o, .int .u64 h0.n, .int .i64 h0.i, .int .u64 h0.m]) (by kernel_rfl) (fun _ _ d _ _ h => by cases d <;> exact h) (by kernel_rfl) HW rfl rfl rfl (fun w' hS => ?hB02) ?_
              case hB02 => have z0 := hS.1.H0; have z1 := hS.1.H1; have z2 := hS.1.H2; have z3 := hS.1.H3; first | (go_simp; rfl) | go_simp
              simp only [List.setIfInBounds_toArray, List.set_cons_zero, List.set_cons_succ]
              refine lx_rd 3 ?vB03 (by kernel_rfl) (fun _ _ d _ _ h => by cases d <;> exact h) (by kernel_rfl) HW rfl rfl rfl (fun w' hS => ?hB03) ?_
              case hB03 => first | (go_simp; rfl) | go_simp
              simp only [List.setIfInBounds_toArray, List.set_cons_zero, List.set_cons_succ]
              refine lx_rd 4 (.pointer (some ⟨w.heap.size + 1, 0, none⟩)) (by kernel_rfl) (fun _ _ d _ _ h => by cases d <;> exact h) (by kernel_rfl) HW rfl rfl rfl (fun w' hS => ?hB04) ?_
              case hB04 => first | (go_simp; rfl) | go_simp
              simp only [List.setIfInBounds_toArray, List.set_cons_zero, List.set_cons_succ]
              refine lx_rd 5 (.slice (some ⟨g0, off, none⟩) (q.length + 1) cap) (by kernel_rfl) (fun _ _ d _ _ h => by cases d <;> exact h) (by kernel_rfl) HW rfl rfl rfl (fun w' hS => ?hB05) ?_
              case hB05 => have z0 := hS.1.V0; first | (go_simp; rfl) | go_simp
              simp only [List.setIfInBounds_toArray, List.set_cons_zero, List.set_cons_succ]
              refine lx_rd 6 (.pointer (some ⟨g0, off, none⟩)) (by kernel_rfl) (fun _ _ d _ _ h => by cases d <;> exact h) (by kernel_rfl) HW rfl rfl rfl (fun w' hS => ?hB06) ?_
              case hB06 => first | (go_simp; rfl) | go_simp
              simp only [List.setIfInBounds_toArray, List.set_cons_zero, List.set_cons_succ]
              refine lx_rd 7 (.pointer (some ⟨g0, off, none⟩)) (by kernel_rfl) (fun _ _ d _ _ h => by cases d <;> exact h) (by kernel_rfl) HW rfl rfl rfl (fun w' hS => ?hB07) ?_
              case hB07 => first | (go_simp; rfl) | go_simp
              simp only [List.setIfInBounds_toArray, List.set_cons_zero, List.set_cons_succ]
              refine lx_rd 8 (.int .i64 x.1) (by kernel_rfl) (fun _ _ d _ _ h => by cases d <;> exact h) (by kernel_rfl) HW rfl rfl rfl (fun w' hS => ?hB08) ?_
              case hB08 => have y0 := (hdF _ hS.1).1; have y1 := (hdF _ hS.1).2; first | (go_simp; rfl) | go_simp
              simp only [List.setIfInBounds_toArray, List.set_cons_zero, List.set_cons_succ]
              refine lx_rd 9 ?vB09 (by kernel_rfl) (fun _ _ d _ _ h => by cases d <;> exact h) (by kernel_rfl) HW rfl rfl rfl (fun w' hS => ?hB09) ?_
              case hB09 => first | (go_simp; rfl) | go_simp
              simp only [List.setIfInBounds_toArray, List.set_cons_zero, List.set_cons_succ]
              refine lx_rd 10 (.pointer (some ⟨w.heap.size + 1, 0, none⟩)) (by kernel_rfl) (fun _ _ d _ _ h => by cases d <;> exact h) (by kernel_rfl) HW rfl rfl rfl (fun w' hS => ?hB010) ?_
              case hB010 => first | (go_simp; rfl) | go_simp
              simp only [List.setIfInBounds_toArray, List.set_cons_zero, List.set_cons_succ]
              refine lx_rd 11 (.slice (some ⟨g0, off, none⟩) (q.length + 1) cap) (by kernel_rfl) (fun _ _ d _ _ h => by cases d <;> exact h) (by kernel_rfl) HW rfl rfl rfl (fun w' hS => ?hB011) ?_
              case hB011 => have z0 := hS.1.V0; first | (go_simp; rfl) | go_simp
              simp only [List.setIfInBounds_toArray, List.set_cons_zero, List.set_cons_succ]
              refine lx_rd 12 (.pointer (some ⟨g0, off, none⟩)) (by kernel_rfl) (fun _ _ d _ _ h => by cases d <;> exact h) (by kernel_rfl) HW rfl rfl rfl (fun w' hS => ?hB012) ?_
              case hB012 => first | (go_simp; rfl) | go_simp
              simp only [List.setIfInBounds_toArray, List.set_cons_zero, List.set_cons_succ]
              refine lx_rd 13 (.pointer (some ⟨g0, off + 1, none⟩)) (by kernel_rfl) (fun _ _ d _ _ h => by cases d <;> exact h) (by kernel_rfl) HW rfl rfl rfl (fun w' hS => ?hB013) ?_
              case hB013 => first | (go_simp; rfl) | go_simp
              simp only [List.setIfInBounds_toArray, List.set_cons_zero, List.set_cons_succ]
              refine lx_rd 14 (.int .u64 x.2) (by kernel_rfl) (fun _ _ d _ _ h => by cases d <;> exact h) (by kernel_rfl) HW rfl rfl rfl (fun w' hS => ?hB014) ?_
              case hB014 => have y0 := (hdF _ hS.1).1; have y1 := (hdF _ hS.1).2; first | (go_simp; rfl) | go_simp
              simp only [List.setIfInBounds_toArray, List.set_cons_zero, List.set_cons_succ]
              refine lx_two 15 20 (by kernel_rfl) ?_ ?_
              · as_aux_lemma =>
                  refine stepT_call 11 ?cB01 rfl rfl rfl ?dB01 ?_
                  case dB01 => first | (go_simp; rfl) | go_simp
                  refine (cH W).mono ?_
                  rintro e w5 ⟨rfl, hb1⟩
                  have HWc : (Ag w h0 h1 n0 n1 (.slice (some ⟨g0, off, none⟩) (q.length + 1) cap) (.slice a1 q1.length c1) (x :: q) q1 w5 ∧ DoAt w5 gs d) := ⟨HW.1.below hb1, HW.2.below hb1⟩
                  refine ⟨_, rfl, fun _ => HWc, ?_⟩
                  simp only [List.setIfInBounds_toArray, List.set_cons_zero, List.set_cons_succ]
                  refine lx_rd 16 ?vB0a16 (by kernel_rfl) (fun _ _ d _ _ h => by cases d <;> exact h) (by kernel_rfl) HWc rfl rfl rfl (fun w' hS => ?hB0a16) ?_
                  case hB0a16 => first | (go_simp; rfl) | go_simp
                  simp only [List.setIfInBounds_toArray, List.set_cons_zero, List.set_cons_succ]
                  refine lx_rd 17 ?vB0a17 (by kernel_rfl) (fun _ _ d _ _ h => by cases d <;> exact h) (by kernel_rfl) HWc rfl rfl rfl (fun w' hS => ?hB0a17) ?_
                  case hB0a17 => first | (go_simp; rfl) | go_simp
                  simp only [List.setIfInBounds_toArray, List.set_cons_zero, List.set_cons_succ]
                  refine lx_rd 18 ?vB0a18 (by kernel_rfl) (fun _ _ d _ _ h => by cases d <;> exact h) (by kernel_rfl) HWc rfl rfl rfl (fun w' hS => ?hB0a18) ?_
                  case hB0a18 => first | (go_simp; rfl) | go_simp
                  simp only [List.setIfInBounds_toArray, List.set_cons_zero, List.set_cons_succ]
                  refine lx_rd 19 ?vB0a19 (by kernel_rfl) (fun _ _ d _ _ h => by cases d <;> exact h) (by kernel_rfl) HWc rfl rfl rfl (fun w' hS => ?hB0a19) ?_
                  case hB0a19 => first | (go_simp; rfl) | go_simp
                  simp only [List.setIfInBounds_toArray, List.set_cons_zero, List.set_cons_succ]
                  refine lx_one 20 (by kernel_rfl) ?_
                  have hb2 := below1 w5 (.cells #[.int .i64 0, .int .u64 0, .int .i64 0, .int .u64 0] 24)
                  have HWca : (Ag w h0 h1 n0 n1 (.slice (some ⟨g0, off, none⟩) (q.length + 1) cap) (.slice a1 q1.length c1) (x :: q) q1 (w5.alloc (.cells #[.int .i64 0, .int .u64 0, .int .i64 0, .int .u64 0] 24)) ∧ DoAt (w5.alloc (.cells #[.int .i64 0, .int .u64 0, .int .i64 0, .int .u64 0] 24)) gs d) := ⟨HWc.1.below hb2, HWc.2.below hb2⟩
                  have G2 : HfAt (w5.alloc (.cells #[.int .i64 0, .int .u64 0, .int .i64 0, .int .u64 0] 24)) w5.heap.size ⟨0, 0, 0, 0⟩ := push_at _ _ rfl
                  have gl : w.heap.size + 4 ≤ w5.heap.size := HWc.1.tz
                  have go0 := HWc.1.out0 (Nat.le_refl w5.heap.size)
                  have go1 := HWc.1.out1 (Nat.le_refl w5.heap.size)
                  have go2 := HWc.2.lt
                  refine stepT_val (w' := w5.alloc (.cells #[.int .i64 0, .int .u64 0, .int .i64 0, .int .u64 0] 24)) (.pointer (some ⟨w5.heap.size, 0, none⟩)) rfl rfl rfl ?dB02 (fun _ => HWca) ?_
                  case dB02 => first | (go_simp; rfl) | go_simp
                  simp only [List.setIfInBounds_toArray, List.set_cons_zero, List.set_cons_succ]
                  have R2 : (Ag w h0 h1 n0 n1 (.slice (some ⟨g0, off, none⟩) (q.length + 1) cap) (.slice a1 q1.length c1) (x :: q) q1 ((w5.alloc (.cells #[.int .i64 0, .int .u64 0, .int .i64 0, .int .u64 0] 24)).setRow w5.heap.size (hfc t)) ∧ DoAt ((w5.alloc (.cells #[.int .i64 0, .int .u64 0, .int .i64 0, .int .u64 0] 24)).setRow w5.heap.size (hfc t)) gs d) := ⟨HWca.1.row G2 t gl go0 go1, HWca.2.row (by omega)⟩
                  have G9 : HfAt ((w5.alloc (.cells #[.int .i64 0, .int .u64 0, .int .i64 0, .int .u64 0] 24)).setRow w5.heap.size (hfc t)) w5.heap.size t := G2.set t
                  refine lx_one 21 (by kernel_rfl) (stepT_store (w' := (w5.alloc (.cells #[.int .i64 0, .int .u64 0, .int .i64 0, .int .u64 0] 24)).setRow w5.heap.size (hfc t)) rfl rfl rfl ?sB01 (fun _ => R2) ?_)
                  case sB01 => exact exec_store_half (.tmp 14) (.tmp 129) rfl w5.heap.size rfl t rfl _ G2
                  generalize (w5.alloc (.cells #[.int .i64 0, .int .u64 0, .int .i64 0, .int .u64 0] 24)).setRow w5.heap.size (hfc t) = WY at R2 G9 ⊢
                  refine lx_one 22 (by kernel_rfl) (stepT_val (w' := WY) (.int .i64 tl) rfl rfl rfl ?xB010 (fun _ => R2) ?_)
                  case xB010 => first | (go_simp; rfl) | (go_simp; done)
                  simp only [List.setIfInBounds_toArray, List.set_cons_zero, List.set_cons_succ]
                  refine lx_one 23 (by kernel_rfl) (stepT_val (w' := WY) (.int .i64 0) rfl rfl rfl ?xB011 (fun _ => R2) ?_)
                  case xB011 => first | (go_simp; rfl) | (go_simp; done)
                  simp only [List.setIfInBounds_toArray, List.set_cons_zero, List.set_cons_succ]
                  refine lx_nil (by kernel_rfl) ?_
                  go_wp2_with fail
                  go_meet
                  exact ⟨w5.heap.size, rfl, rfl, R2.1, G9⟩
              · as_aux_lemma =>
                  have hb3 := below1 W (.cells #[.int .i64 0, .int .u64 0, .int .i64 0, .int .u64 0] 24)
                  have HWa : (Ag w h0 h1 n0 n1 (.slice (some ⟨g0, off, none⟩) (q.length + 1) cap) (.slice a1 q1.length c1) (x :: q) q1 (W.alloc (.cells #[.int .i64 0, .int .u64 0, .int .i64 0, .int .u64 0] 24)) ∧ DoAt (W.alloc (.cells #[.int .i64 0, .int .u64 0, .int .i64 0, .int .u64 0] 24)) gs d) := ⟨HW.1.below hb3, HW.2.below hb3⟩
                  have G3 : HfAt (W.alloc (.cells #[.int .i64 0, .int .u64 0, .int .i64 0, .int .u64 0] 24)) W.heap.size ⟨0, 0, 0, 0⟩ := push_at _ _ rfl
                  have gl : w.heap.size + 4 ≤ W.heap.size := HW.1.tz
                  have go0 := HW.1.out0 (Nat.le_refl W.heap.size)
                  have go1 := HW.1.out1 (Nat.le_refl W.heap.size)
                  have go2 := HW.2.lt
                  refine stepT_val (w' := W.alloc (.cells #[.int .i64 0, .int .u64 0, .int .i64 0, .int .u64 0] 24)) (.pointer (some ⟨W.heap.size, 0, none⟩)) rfl rfl rfl ?dB03 (fun _ => HWa) ?_
                  case dB03 => first | (go_simp; rfl) | go_simp
                  simp only [List.setIfInBounds_toArray, List.set_cons_zero, List.set_cons_succ]
                  refine lx_one 15 (by kernel_rfl) ?_
                  refine stepT_call 11 ?cB04 rfl rfl rfl ?dB04 ?_
                  case dB04 => first | (go_simp; rfl) | go_simp
                  refine (cH (W.alloc (.cells #[.int .i64 0, .int .u64 0, .int .i64 0, .int .u64 0] 24))).mono ?_
                  rintro e w6 ⟨rfl, hb4⟩
                  have HWac : (Ag w h0 h1 n0 n1 (.slice (some ⟨g0, off, none⟩) (q.length + 1) cap) (.slice a1 q1.length c1) (x :: q) q1 w6 ∧ DoAt w6 gs d) := ⟨HWa.1.below hb4, HWa.2.below hb4⟩
                  refine ⟨_, rfl, fun _ => HWac, ?_⟩
                  simp only [List.setIfInBounds_toArray, List.set_cons_zero, List.set_cons_succ]
                  have G4 : HfAt w6 W.heap.size ⟨0, 0, 0, 0⟩ := G3.below hb4 G3.lt
                  refine lx_rd 16 ?vB0b16 (by kernel_rfl) (fun _ _ d _ _ h => by cases d <;> exact h) (by kernel_rfl) HWac rfl rfl rfl (fun w' hS => ?hB0b16) ?_
                  case hB0b16 => first | (go_simp; rfl) | go_simp
                  simp only [List.setIfInBounds_toArray, List.set_cons_zero, List.set_cons_succ]
                  refine lx_rd 17 ?vB0b17 (by kernel_rfl) (fun _ _ d _ _ h => by cases d <;> exact h) (by kernel_rfl) HWac rfl rfl rfl (fun w' hS => ?hB0b17) ?_
                  case hB0b17 => first | (go_simp; rfl) | go_simp
                  simp only [List.setIfInBounds_toArray, List.set_cons_zero, List.set_cons_succ]
                  refine lx_rd 18 ?vB0b18 (by kernel_rfl) (fun _ _ d _ _ h => by cases d <;> exact h) (by kernel_rfl) HWac rfl rfl rfl (fun w' hS => ?hB0b18) ?_
                  case hB0b18 => first | (go_simp; rfl) | go_simp
                  simp only [List.setIfInBounds_toArray, List.set_cons_zero, List.set_cons_succ]
                  refine lx_rd 19 ?vB0b19 (by kernel_rfl) (fun _ _ d _ _ h => by cases d <;> exact h) (by kernel_rfl) HWac rfl rfl rfl (fun w' hS => ?hB0b19) ?_
                  case hB0b19 => first | (go_simp; rfl) | go_simp
                  simp only [List.setIfInBounds_toArray, List.set_cons_zero, List.set_cons_succ]
                  have R2 : (Ag w h0 h1 n0 n1 (.slice (some ⟨g0, off, none⟩) (q.length + 1) cap) (.slice a1 q1.length c1) (x :: q) q1 (w6.setRow W.heap.size (hfc t)) ∧ DoAt (w6.setRow W.heap.size (hfc t)) gs d) := ⟨HWac.1.row G4 t gl go0 go1, HWac.2.row (by omega)⟩
                  have G9 : HfAt (w6.setRow W.heap.size (hfc t)) W.heap.size t := G4.set t
                  refine lx_one 21 (by kernel_rfl) (stepT_store (w' := w6.setRow W.heap.size (hfc t)) rfl rfl rfl ?sB02 (fun _ => R2) ?_)
                  case sB02 => exact exec_store_half (.tmp 14) (.tmp 129) rfl W.heap.size rfl t rfl _ G4
                  generalize w6.setRow W.heap.size (hfc t) = WY at R2 G9 ⊢
                  refine lx_one 22 (by kernel_rfl) (stepT_val (w' := WY) (.int .i64 tl) rfl rfl rfl ?xB020 (fun _ => R2) ?_)
                  case xB020 => first | (go_simp; rfl) | (go_simp; done)
                  simp only [List.setIfInBounds_toArray, List.set_cons_zero, List.set_cons_succ]
                  refine lx_one 23 (by kernel_rfl) (stepT_val (w' := WY) (.int .i64 0) rfl rfl rfl ?xB021 (fun _ => R2) ?_)
                  case xB021 => first | (go_simp; rfl) | (go_simp; done)
                  simp only [List.setIfInBounds_toArray, List.set_cons_zero, List.set_cons_succ]
                  refine lx_nil (by kernel_rfl) ?_
                  go_wp2_with fail
                  go_meet
                  exact ⟨W.heap.size, rfl, rfl, R2.1, G9⟩
            case rest =>
              clear HA HD cH hdF
              obtain ⟨g, rfl, rfl, HA, HG⟩ := hcut
              have z0 := HG.out.c0
              have z1 := HG.out.c1
              have z2 := HG.out.c2
              have z3 := HG.out.c3
              by_cases hc1 : cap = 1
              · subst hc1
                have Hq0 : Hid (q = []) := List.length_eq_zero_iff.1 (by omega)
                go_wp2_with (first
                  | (refine wpList_store_mid rfl 24 (.tmp 136) (.tmp 135) rfl w.heap.size 0 (hfc t) rfl rfl (there_half HA.out 0 (by omega)) (by rw [infoHalf]; rfl) (hfc_one t) ?_; have A5 : Hid (Ag w t h1 n0 n1 (.slice (some ⟨g0, off, none⟩) (q.length + 1) 1) (.slice a1 q1.length c1) (x :: q) q1 _) := HA.out.setH0 t; generalize wc.setCells w.heap.size 0 (hfc t).toList = w5 at A5 ⊢; have x0 := A5.out.V0; have x1 := A5.out.VF 0))
                obtain rfl := Hq0.out
                have A7 : Hid (Ag w t h1 n0 n1 (.slice (some ⟨g0, off, none⟩) 0 0) (.slice a1 q1.length c1) [] q1 (w5.setCell ⟨w.heap.size + 1, 0, none⟩ (.slice (some ⟨g0, off, none⟩) 0 0))) := A5.out.tail0
                go_roundg (mu (min n 300) (i + 1) ([] : List Lt).length q1.length)
                case measure => exact hm
                case rel => exact ⟨i + 1, _, _, _, _, _, _, [], q1, by go_num, rfl, by omega, by omega, by omega, by omega, A7, HP2⟩
              · go_wp2_with (first
                  | (refine wpList_store_mid rfl 24 (.tmp 136) (.tmp 135) rfl w.heap.size 0 (hfc t) rfl rfl (there_half HA.out 0 (by omega)) (by rw [infoHalf]; rfl) (hfc_one t) ?_; have A5 : Hid (Ag w t h1 n0 n1 (.slice (some ⟨g0, off, none⟩) (q.length + 1) cap) (.slice a1 q1.length c1) (x :: q) q1 _) := HA.out.setH0 t; generalize wc.setCells w.heap.size 0 (hfc t).toList = w5 at A5 ⊢; have x0 := A5.out.V0; have x1 := A5.out.VF 0))
                have A7 : Hid (Ag w t h1 n0 n1 _ _ q q1 _) := A5.out.tail0
                rw [if_neg hc1] at A7
                go_roundg (mu (min n 300) (i + 1) q.length q1.length)
                case measure => exact hm
                case rel => exact ⟨i + 1, _, _, _, _, _, _, q, q1, by go_num, rfl, by omega, by omega, by omega, by omega, A7, HP2⟩
        · cases q1 with
          | nil => as_aux_lemma =>
            have x0 := HA.out.V1
            have hm : mu (min n 300) (i + 1) q0.length 0 < gk := by
              rw [← Hmu.out]
              rcases hpar.out with k | ⟨k1, k2, k3⟩
              · exact mu_early k (by simp)
              · exact mu_skip1 (by omega) (by simpa using k3)
            go_wp2_with fail
            go_roundg (mu (min n 300) (i + 1) q0.length 0)
            case measure => exact hm
            case rel => exact ⟨i + 1, h0, h1, n0, n1, _, _, q0, [], by go_num, rfl, by omega, by omega, by omega, by simp only [List.length_nil] at hql ⊢; omega, HA, HP⟩
          | cons x q => as_aux_lemma =>
            obtain ⟨g0, off, cap, ev, hcap, hcm, _, _, _⟩ := HA.out.u1.head
            injection ev with ev1 _ ev3
            subst ev1
            obtain rfl := ev3.symm
            replace HA : Hid (Ag w h0 h1 n0 n1 (.slice a0 q0.length c0) (.slice (some ⟨g0, off, none⟩) (q.length + 1) cap) q0 (x :: q) wc) := HA
            have hdF : ∀ w', Ag w h0 h1 n0 n1 (.slice a0 q0.length c0) (.slice (some ⟨g0, off, none⟩) (q.length + 1) cap) q0 (x :: q) w' → w'.cell? ⟨g0, off, none⟩ = some (.int .i64 x.1) ∧ w'.cell? ⟨g0, off + 1, none⟩ = some (.int .u64 x.2) := fun w' A' => by
              obtain ⟨g', off', cap', e', _, _, k0, k1, _⟩ := A'.u1.head
              injection e' with e1 _ _
              injection e1 with e1
              injection e1 with e1 e2 _
              subst e1 e2
              exact ⟨k0, k1⟩
            have hm : mu (min n 300) (i + 1) q0.length q.length < gk := by
              rw [← Hmu.out]
              rcases hpar.out with k | ⟨k1, k2, k3⟩
              · exact mu_early k (by simp only [List.length_cons]; omega)
              · exact mu_hear1 (by omega)
            have hP := HP.out.swap.hear
            have cH := fun w => Hear_any h1 x.1 x.2 w
            generalize hearA h1 x.1 x.2 = r at cH hP
            obtain ⟨⟨t, tl⟩, en⟩ := r
            have he : en = 0 := hP.1
            subst he
            unfold hearV hfv hfc at cH
            simp only at cH
            have HP2 : Hid (Pz h0 t q0 q n0 n1) := hP.2.swap
            clear hP HP
            have hql2 : q0.length + q.length ≤ i := by simp only [List.length_cons] at hql; omega
            have x0 := HA.out.V1
            have hpos : (0 : Int) < (q.length : Int) + 1 := by omega
            go_upto_region 21 with fail
            clear x0 hpos
            go_cut [14, 15, 16] from 19 to 142 (fun s14 _ s16 wx => ∃ g : Nat, s14 = .pointer (some ⟨g, 0, none⟩) ∧ s16 = .int .i64 0 ∧ Hid (Ag w h0 h1 n0 n1 (.slice a0 q0.length c0) (.slice (some ⟨g0, off, none⟩) (q.length + 1) cap) q0 (x :: q) wx) ∧ Hid (HfAt wx g t))
            case first =>
              refine wp_region_lx (fun w' => (Ag w h0 h1 n0 n1 (.slice a0 q0.length c0) (.slice (some ⟨g0, off, none⟩) (q.length + 1) cap) q0 (x :: q) w' ∧ DoAt w' gs d)) [] 24 (by kernel_rfl) (by kernel_rfl) ?_
              have HW : (Ag w h0 h1 n0 n1 (.slice a0 q0.length c0) (.slice (some ⟨g0, off, none⟩) (q.length + 1) cap) q0 (x :: q) wc.drew ∧ DoAt wc.drew gs d) := ⟨HA.out.below ((Below.refl _ _).drew), HD.out.below ((Below.refl _ _).drew)⟩
              generalize wc.drew = W at HW ⊢
              refine lx_rd 0 ?vB10 (by kernel_rfl) (fun _ _ d _ _ h => by cases d <;> exact h) (by kernel_rfl) HW rfl rfl rfl (fun w' hS => ?hB10) ?_
              case hB10 => first | (go_simp; rfl) | go_simp
              simp only [List.setIfInBounds_toArray, List.set_cons_zero, List.set_cons_succ]
              refine lx_rd 1 (.pointer (some ⟨w.heap.size, 4, none⟩)) (by kernel_rfl) (fun _ _ d _ _ h => by cases d <;> exact h) (by kernel_rfl) HW rfl rfl rfl (fun w' hS => ?hB11) ?_
              case hB11 => first | (go_simp; rfl) | go_simp
              simp only [List.setIfInBounds_toArray, List.set_cons_zero, List.set_cons_succ]
              refine lx_rd 2 (.agg #[.int .i64 h1.o, .int .u64 h1.n, .int .i64 h1.i, .int .u64 h1.m]) (by kernel_rfl) (fun _ _ d _ _ h => by cases d <;> exact h) (by kernel_rfl) HW rfl rfl rfl (fun w' hS => ?hB12) ?_
              case hB12 => have z0 := hS.1.H4; have z1 := hS.1.H5; have z2 := hS.1.H6; have z3 := hS.1.H7; first | (go_simp; rfl) | go_simp
              simp only [List.setIfInBounds_toArray, List.set_cons_zero, List.set_cons_succ]
              refine lx_rd 3 ?vB13 (by kernel_rfl) (fun _ _ d _ _ h => by cases d <;> exact h) (by kernel_rfl) HW rfl rfl rfl (fun w' hS => ?hB13) ?_
              case hB13 => first | (go_simp; rfl) | go_simp
              simp only [List.setIfInBounds_toArray, List.set_cons_zero, List.set_cons_succ]
              refine lx_rd 4 (.pointer (some ⟨w.heap.size + 1, 1, none⟩)) (by kernel_rfl) (fun _ _ d _ _ h => by cases d <;> exact h) (by kernel_rfl) HW rfl rfl rfl (fun w' hS => ?hB14) ?_
              case hB14 => first | (go_simp; rfl) | go_simp
              simp only [List.setIfInBounds_toArray, List.set_cons_zero, List.set_cons_succ]
              refine lx_rd 5 (.slice (some ⟨g0, off, none⟩) (q.length + 1) cap) (by kernel_rfl) (fun _ _ d _ _ h => by cases d <;> exact h) (by kernel_rfl) HW rfl rfl rfl (fun w' hS => ?hB15) ?_
              case hB15 => have z0 := hS.1.V1; first | (go_simp; rfl) | go_simp
              simp only [List.setIfInBounds_toArray, List.set_cons_zero, List.set_cons_succ]
              refine lx_rd 6 (.pointer (some ⟨g0, off, none⟩)) (by kernel_rfl) (fun _ _ d _ _ h => by cases d <;> exact h) (by kernel_rfl) HW rfl rfl rfl (fun w' hS => ?hB16) ?_
              case hB16 => first | (go_simp; rfl) | go_simp
              simp only [List.setIfInBounds_toArray, List.set_cons_zero, List.set_cons_succ]
              refine lx_rd 7 (.pointer (some ⟨g0, off, none⟩)) (by kernel_rfl) (fun _ _ d _ _ h => by cases d <;> exact h) (by kernel_rfl) HW rfl rfl rfl (fun w' hS => ?hB17) ?_
              case hB17 => first | (go_simp; rfl) | go_simp
              simp only [List.setIfInBounds_toArray, List.set_cons_zero, List.set_cons_succ]
              refine lx_rd 8 (.int .i64 x.1) (by kernel_rfl) (fun _ _ d _ _ h => by cases d <;> exact h) (by kernel_rfl) HW rfl rfl rfl (fun w' hS => ?hB18) ?_
              case hB18 => have y0 := (hdF _ hS.1).1; have y1 := (hdF _ hS.1).2; first | (go_simp; rfl) | go_simp
              simp only [List.setIfInBounds_toArray, List.set_cons_zero, List.set_cons_succ]
              refine lx_rd 9 ?vB19 (by kernel_rfl) (fun _ _ d _ _ h => by cases d <;> exact h) (by kernel_rfl) HW rfl rfl rfl (fun w' hS => ?hB19) ?_
              case hB19 => first | (go_simp; rfl) | go_simp
              simp only [List.setIfInBounds_toArray, List.set_cons_zero, List.set_cons_succ]
              refine lx_rd 10 (.pointer (some ⟨w.heap.size + 1, 1, none⟩)) (by kernel_rfl) (fun _ _ d _ _ h => by cases d <;> exact h) (by kernel_rfl) HW rfl rfl rfl (fun w' hS => ?hB110) ?_
              case hB110 => first | (go_simp; rfl) | go_simp
              simp only [List.setIfInBounds_toArray, List.set_cons_zero, List.set_cons_succ]
              refine lx_rd 11 (.slice (some ⟨g0, off, none⟩) (q.length + 1) cap) (by kernel_rfl) (fun _ _ d _ _ h => by cases d <;> exact h) (by kernel_rfl) HW rfl rfl rfl (fun w' hS => ?hB111) ?_
              case hB111 => have z0 := hS.1.V1; first | (go_simp; rfl) | go_simp
              simp only [List.setIfInBounds_toArray, List.set_cons_zero, List.set_cons_succ]
              refine lx_rd 12 (.pointer (some ⟨g0, off, none⟩)) (by kernel_rfl) (fun _ _ d _ _ h => by cases d <;> exact h) (by kernel_rfl) HW rfl rfl rfl (fun w' hS => ?hB112) ?_
              case hB112 => first | (go_simp; rfl) | go_simp
              simp only [List.setIfInBounds_toArray, List.set_cons_zero, List.set_cons_succ]
              refine lx_rd 13 (.pointer (some ⟨g0, off + 1, none⟩)) (by kernel_rfl) (fun _ _ d _ _ h => by cases d <;> exact h) (by kernel_rfl) HW rfl rfl rfl (fun w' hS => ?hB113) ?_
              case hB113 => first | (go_simp; rfl) | go_simp
              simp only [List.setIfInBounds_toArray, List.set_cons_zero, List.set_cons_succ]
              refine lx_rd 14 (.int .u64 x.2) (by kernel_rfl) (fun _ _ d _ _ h => by cases d <;> exact h) (by kernel_rfl) HW rfl rfl rfl (fun w' hS => ?hB114) ?_
              case hB114 => have y0 := (hdF _ hS.1).1; have y1 := (hdF _ hS.1).2; first | (go_simp; rfl) | go_simp
              simp only [List.setIfInBounds_toArray, List.set_cons_zero, List.set_cons_succ]
              refine lx_two 15 20 (by kernel_rfl) ?_ ?_
              · as_aux_lemma =>
                  refine stepT_call 11 ?cB11 rfl rfl rfl ?dB11 ?_
                  case dB11 => first | (go_simp; rfl) | go_simp
                  refine (cH W).mono ?_
                  rintro e w5 ⟨rfl, hb1⟩
                  have HWc : (Ag w h0 h1 n0 n1 (.slice a0 q0.length c0) (.slice (some ⟨g0, off, none⟩) (q.length + 1) cap) q0 (x :: q) w5 ∧ DoAt w5 gs d) := ⟨HW.1.below hb1, HW.2.below hb1⟩
                  refine ⟨_, rfl, fun _ => HWc, ?_⟩
                  simp only [List.setIfInBounds_toArray, List.set_cons_zero, List.set_cons_succ]
                  refine lx_rd 16 ?vB1a16 (by kernel_rfl) (fun _ _ d _ _ h => by cases d <;> exact h) (by kernel_rfl) HWc rfl rfl rfl (fun w' hS => ?hB1a16) ?_
                  case hB1a16 => first | (go_simp; rfl) | go_simp
                  simp only [List.setIfInBounds_toArray, List.set_cons_zero, List.set_cons_succ]
                  refine lx_rd 17 ?vB1a17 (by kernel_rfl) (fun _ _ d _ _ h => by cases d <;> exact h) (by kernel_rfl) HWc rfl rfl rfl (fun w' hS => ?hB1a17) ?_
                  case hB1a17 => first | (go_simp; rfl) | go_simp
                  simp only [List.setIfInBounds_toArray, List.set_cons_zero, List.set_cons_succ]
                  refine lx_rd 18 ?vB1a18 (by kernel_rfl) (fun _ _ d _ _ h => by cases d <;> exact h) (by kernel_rfl) HWc rfl rfl rfl (fun w' hS => ?hB1a18) ?_
                  case hB1a18 => first | (go_simp; rfl) | go_simp
                  simp only [List.setIfInBounds_toArray, List.set_cons_zero, List.set_cons_succ]
                  refine lx_rd 19 ?vB1a19 (by kernel_rfl) (fun _ _ d _ _ h => by cases d <;> exact h) (by kernel_rfl) HWc rfl rfl rfl (fun w' hS => ?hB1a19) ?_
                  case hB1a19 => first | (go_simp; rfl) | go_simp
                  simp only [List.setIfInBounds_toArray, List.set_cons_zero, List.set_cons_succ]
                  refine lx_one 20 (by kernel_rfl) ?_
                  have hb2 := below1 w5 (.cells #[.int .i64 0, .int .u64 0, .int .i64 0, .int .u64 0] 24)
                  have HWca : (Ag w h0 h1 n0 n1 (.slice a0 q0.length c0) (.slice (some ⟨g0, off, none⟩) (q.length + 1) cap) q0 (x :: q) (w5.alloc (.cells #[.int .i64 0, .int .u64 0, .int .i64 0, .int .u64 0] 24)) ∧ DoAt (w5.alloc (.cells #[.int .i64 0, .int .u64 0, .int .i64 0, .int .u64 0] 24)) gs d) := ⟨HWc.1.below hb2, HWc.2.below hb2⟩
                  have G2 : HfAt (w5.alloc (.cells #[.int .i64 0, .int .u64 0, .int .i64 0, .int .u64 0] 24)) w5.heap.size ⟨0, 0, 0, 0⟩ := push_at _ _ rfl
                  have gl : w.heap.size + 4 ≤ w5.heap.size := HWc.1.tz
                  have go0 := HWc.1.out0 (Nat.le_refl w5.heap.size)
                  have go1 := HWc.1.out1 (Nat.le_refl w5.heap.size)
                  have go2 := HWc.2.lt
                  refine stepT_val (w' := w5.alloc (.cells #[.int .i64 0, .int .u64 0, .int .i64 0, .int .u64 0] 24)) (.pointer (some ⟨w5.heap.size, 0, none⟩)) rfl rfl rfl ?dB12 (fun _ => HWca) ?_
                  case dB12 => first | (go_simp; rfl) | go_simp
                  simp only [List.setIfInBounds_toArray, List.set_cons_zero, List.set_cons_succ]
                  have R2 : (Ag w h0 h1 n0 n1 (.slice a0 q0.length c0) (.slice (some ⟨g0, off, none⟩) (q.length + 1) cap) q0 (x :: q) ((w5.alloc (.cells #[.int .i64 0, .int .u64 0, .int .i64 0, .int .u64 0] 24)).setRow w5.heap.size (hfc t)) ∧ DoAt ((w5.alloc (.cells #[.int .i64 0, .int .u64 0, .int .i64 0, .int .u64 0] 24)).setRow w5.heap.size (hfc t)) gs d) := ⟨HWca.1.row G2 t gl go0 go1, HWca.2.row (by omega)⟩
                  have G9 : HfAt ((w5.alloc (.cells #[.int .i64 0, .int .u64 0, .int .i64 0, .int .u64 0] 24)).setRow w5.heap.size (hfc t)) w5.heap.size t := G2.set t
                  refine lx_one 21 (by kernel_rfl) (stepT_store (w' := (w5.alloc (.cells #[.int .i64 0, .int .u64 0, .int .i64 0, .int .u64 0] 24)).setRow w5.heap.size (hfc t)) rfl rfl rfl ?sB11 (fun _ => R2) ?_)
                  case sB11 => exact exec_store_half (.tmp 14) (.tmp 129) rfl w5.heap.size rfl t rfl _ G2
                  generalize (w5.alloc (.cells #[.int .i64 0, .int .u64 0, .int .i64 0, .int .u64 0] 24)).setRow w5.heap.size (hfc t) = WY at R2 G9 ⊢
                  refine lx_one 22 (by kernel_rfl) (stepT_val (w' := WY) (.int .i64 tl) rfl rfl rfl ?xB110 (fun _ => R2) ?_)
                  case xB110 => first | (go_simp; rfl) | (go_simp; done)
                  simp only [List.setIfInBounds_toArray, List.set_cons_zero, List.set_cons_succ]
                  refine lx_one 23 (by kernel_rfl) (stepT_val (w' := WY) (.int .i64 0) rfl rfl rfl ?xB111 (fun _ => R2) ?_)
                  case xB111 => first | (go_simp; rfl) | (go_simp; done)
                  simp only [List.setIfInBounds_toArray, List.set_cons_zero, List.set_cons_succ]
                  refine lx_nil (by kernel_rfl) ?_
                  go_wp2_with fail
                  go_meet
                  exact ⟨w5.heap.size, rfl, rfl, R2.1, G9⟩
              · as_aux_lemma =>
                  have hb3 := below1 W (.cells #[.int .i64 0, .int .u64 0, .int .i64 0, .int .u64 0] 24)
                  have HWa : (Ag w h0 h1 n0 n1 (.slice a0 q0.length c0) (.slice (some ⟨g0, off, none⟩) (q.length + 1) cap) q0 (x :: q) (W.alloc (.cells #[.int .i64 0, .int .u64 0, .int .i64 0, .int .u64 0] 24)) ∧ DoAt (W.alloc (.cells #[.int .i64 0, .int .u64 0, .int .i64 0, .int .u64 0] 24)) gs d) := ⟨HW.1.below hb3, HW.2.below hb3⟩
                  have G3 : HfAt (W.alloc (.cells #[.int .i64 0, .int .u64 0, .int .i64 0, .int .u64 0] 24)) W.heap.size ⟨0, 0, 0, 0⟩ := push_at _ _ rfl
                  have gl : w.heap.size + 4 ≤ W.heap.size := HW.1.tz
                  have go0 := HW.1.out0 (Nat.le_refl W.heap.size)
                  have go1 := HW.1.out1 (Nat.le_refl W.heap.size)
                  have go2 := HW.2.lt
                  refine stepT_val (w' := W.alloc (.cells #[.int .i64 0, .int .u64 0, .int .i64 0, .int .u64 0] 24)) (.pointer (some ⟨W.heap.size, 0, none⟩)) rfl rfl rfl ?dB13 (fun _ => HWa) ?_
                  case dB13 => first | (go_simp; rfl) | go_simp
                  simp only [List.setIfInBounds_toArray, List.set_cons_zero, List.set_cons_succ]
                  refine lx_one 15 (by kernel_rfl) ?_
                  refine stepT_call 11 ?cB14 rfl rfl rfl ?dB14 ?_
                  case dB14 => first | (go_simp; rfl) | go_simp
                  refine (cH (W.alloc (.cells #[.int .i64 0, .int .u64 0, .int .i64 0, .int .u64 0] 24))).mono ?_
                  rintro e w6 ⟨rfl, hb4⟩
                  have HWac : (Ag w h0 h1 n0 n1 (.slice a0 q0.length c0) (.slice (some ⟨g0, off, none⟩) (q.length + 1) cap) q0 (x :: q) w6 ∧ DoAt w6 gs d) := ⟨HWa.1.below hb4, HWa.2.below hb4⟩
                  refine ⟨_, rfl, fun _ => HWac, ?_⟩
                  simp only [List.setIfInBounds_toArray, List.set_cons_zero, List.set_cons_succ]
                  have G4 : HfAt w6 W.heap.size ⟨0, 0, 0, 0⟩ := G3.below hb4 G3.lt
                  refine lx_rd 16 ?vB1b16 (by kernel_rfl) (fun _ _ d _ _ h => by cases d <;> exact h) (by kernel_rfl) HWac rfl rfl rfl (fun w' hS => ?hB1b16) ?_
                  case hB1b16 => first | (go_simp; rfl) | go_simp
                  simp only [List.setIfInBounds_toArray, List.set_cons_zero, List.set_cons_succ]
                  refine lx_rd 17 ?vB1b17 (by kernel_rfl) (fun _ _ d _ _ h => by cases d <;> exact h) (by kernel_rfl) HWac rfl rfl rfl (fun w' hS => ?hB1b17) ?_
                  case hB1b17 => first | (go_simp; rfl) | go_simp
                  simp only [List.setIfInBounds_toArray, List.set_cons_zero, List.set_cons_succ]
                  refine lx_rd 18 ?vB1b18 (by kernel_rfl) (fun _ _ d _ _ h => by cases d <;> exact h) (by kernel_rfl) HWac rfl rfl rfl (fun w' hS => ?hB1b18) ?_
                  case hB1b18 => first | (go_simp; rfl) | go_simp
                  simp only [List.setIfInBounds_toArray, List.set_cons_zero, List.set_cons_succ]
                  refine lx_rd 19 ?vB1b19 (by kernel_rfl) (fun _ _ d _ _ h => by cases d <;> exact h) (by kernel_rfl) HWac rfl rfl rfl (fun w' hS => ?hB1b19) ?_
                  case hB1b19 => first | (go_simp; rfl) | go_simp
                  simp only [List.setIfInBounds_toArray, List.set_cons_zero, List.set_cons_succ]
                  have R2 : (Ag w h0 h1 n0 n1 (.slice a0 q0.length c0) (.slice (some ⟨g0, off, none⟩) (q.length + 1) cap) q0 (x :: q) (w6.setRow W.heap.size (hfc t)) ∧ DoAt (w6.setRow W.heap.size (hfc t)) gs d) := ⟨HWac.1.row G4 t gl go0 go1, HWac.2.row (by omega)⟩
                  have G9 : HfAt (w6.setRow W.heap.size (hfc t)) W.heap.size t := G4.set t
                  refine lx_one 21 (by kernel_rfl) (stepT_store (w' := w6.setRow W.heap.size (hfc t)) rfl rfl rfl ?sB12 (fun _ => R2) ?_)
                  case sB12 => exact exec_store_half (.tmp 14) (.tmp 129) rfl W.heap.size rfl t rfl _ G4
                  generalize w6.setRow W.heap.size (hfc t) = WY at R2 G9 ⊢
                  refine lx_one 22 (by kernel_rfl) (stepT_val (w' := WY) (.int .i64 tl) rfl rfl rfl ?xB120 (fun _ => R2) ?_)
                  case xB120 => first | (go_simp; rfl) | (go_simp; done)
                  simp only [List.setIfInBounds_toArray, List.set_cons_zero, List.set_cons_succ]
                  refine lx_one 23 (by kernel_rfl) (stepT_val (w' := WY) (.int .i64 0) rfl rfl rfl ?xB121 (fun _ => R2) ?_)
                  case xB121 => first | (go_simp; rfl) | (go_simp; done)
                  simp only [List.setIfInBounds_toArray, List.set_cons_zero, List.set_cons_succ]
                  refine lx_nil (by kernel_rfl) ?_
                  go_wp2_with fail
                  go_meet
                  exact ⟨W.heap.size, rfl, rfl, R2.1, G9⟩
            case rest =>
              clear HA HD cH hdF
              obtain ⟨g, rfl, rfl, HA, HG⟩ := hcut
              have z0 := HG.out.c0
              have z1 := HG.out.c1
              have z2 := HG.out.c2
              have z3 := HG.out.c3
              by_cases hc1 : cap = 1
              · subst hc1
                have Hq0 : Hid (q = []) := List.length_eq_zero_iff.1 (by omega)
                go_wp2_with (first
                  | (refine wpList_store_mid rfl 24 (.tmp 136) (.tmp 135) rfl w.heap.size 4 (hfc t) rfl rfl (there_half HA.out 4 (by omega)) (by rw [infoHalf]; rfl) (hfc_one t) ?_; have A5 : Hid (Ag w h0 t n0 n1 (.slice a0 q0.length c0) (.slice (some ⟨g0, off, none⟩) (q.length + 1) 1) q0 (x :: q) _) := HA.out.setH1 t; generalize wc.setCells w.heap.size 4 (hfc t).toList = w5 at A5 ⊢; have x0 := A5.out.V1; have x1 := A5.out.VF 1))
                obtain rfl := Hq0.out
                have A7 : Hid (Ag w h0 t n0 n1 (.slice a0 q0.length c0) (.slice (some ⟨g0, off, none⟩) 0 0) q0 [] (w5.setCell ⟨w.heap.size + 1, 1, none⟩ (.slice (some ⟨g0, off, none⟩) 0 0))) := A5.out.tail1
                go_roundg (mu (min n 300) (i + 1) q0.length ([] : List Lt).length)
                case measure => exact hm
                case rel => exact ⟨i + 1, _, _, _, _, _, _, q0, [], by go_num, rfl, by omega, by omega, by omega, by omega, A7, HP2⟩
              · go_wp2_with (first
                  | (refine wpList_store_mid rfl 24 (.tmp 136) (.tmp 135) rfl w.heap.size 4 (hfc t) rfl rfl (there_half HA.out 4 (by omega)) (by rw [infoHalf]; rfl) (hfc_one t) ?_; have A5 : Hid (Ag w h0 t n0 n1 (.slice a0 q0.length c0) (.slice (some ⟨g0, off, none⟩) (q.length + 1) cap) q0 (x :: q) _) := HA.out.setH1 t; generalize wc.setCells w.heap.size 4 (hfc t).toList = w5 at A5 ⊢; have x0 := A5.out.V1; have x1 := A5.out.VF 1))
                have A7 : Hid (Ag w h0 t n0 n1 _ _ q0 q _) := A5.out.tail1
                rw [if_neg hc1] at A7
                go_roundg (mu (min n 300) (i + 1) q0.length q.length)
                case measure => exact hm
                case rel => exact ⟨i + 1, _, _, _, _, _, _, q0, q, by go_num, rfl, by omega, by omega, by omega, by omega, A7, HP2⟩
end Go.Proofs.YtgijofcnknehdaaDoor
