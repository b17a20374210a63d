/- meter: a bucket; what there would be. -/
import Derived.Test.YtmlkeobmkjdefaaMtA
import Derived.BigRegion
import Derived.BigQuiet
import Derived.Lib.SmallJoins
namespace Go.Proofs.Ytmlkeobmkjdefaa
open Go.RowKit Go.Joins

/-- A bucket: rate, burst, level, when it was looked at last. -/
structure Bk where
  r : Nat
  s : Nat
  l : Nat
  t : Nat

structure Bk.Ok (b : Bk) : Prop where
  ra : amt b.r = true
  r64 : b.r < 2 ^ 64
  sb : b.s < Fl.inf
  ls : b.l ≤ b.s
  tn : Fl.nan b.t = false
  t64 : b.t < 2 ^ 64

def Bk.old (b : Bk) (now : Nat) : Bool := Fl.nan now || decide (b.t = NI) || fle now b.t
def Bk.full (b : Bk) (now : Nat) : Bool := decide (b.r = Fl.inf) || (decide (now = Fl.inf) && !feq b.r 0)
def Bk.grown (b : Bk) (now : Nat) : Nat := (Ieee.double.add b.l ((Ieee.double.mul ((Ieee.double.sub now b.t).getD 0) b.r).getD 0)).getD 0
/-- What there would be. -/
def Bk.lvl (b : Bk) (now : Nat) : Nat := if b.old now then b.l else if b.full now then b.s else if feq b.r 0 then b.l else min b.s (b.grown now)

theorem rung_le {x : Nat} (h : Fl.nan x = false) : Fl.rung x ≤ Fl.inf := by
  unfold Fl.nan at h
  simpa using h

theorem rung_inf {x : Nat} (hx : x < 2 ^ 64) (h : Fl.rung x = Fl.inf) : x = Fl.inf ∨ x = NI := by
  have hs : Fl.sgn = 9223372036854775808 := rfl
  have hi : Fl.inf = 9218868437227405312 := rfl
  have hN : NI = 18442240474082181120 := rfl
  unfold Fl.rung at h
  rw [hs, hi] at h
  omega

theorem fle_false {x y : Nat} (hx : Fl.nan x = false) (hy : Fl.nan y = false) (h : fle x y = false) : Fl.sr y < Fl.sr x := by
  unfold fle at h
  rw [hx, hy] at h
  simp at h
  omega

theorem sv_of_sr {x y : Nat} (h : Fl.sr y < Fl.sr x) : Fl.sv y < Fl.sv x := by
  have c := Fl.sv_cmp y x
  rw [Fl.cmp_int, Fl.cmp_int, if_pos h] at c
  by_cases g : Fl.sv y < Fl.sv x
  · exact g
  · rw [if_neg g] at c
    split at c <;> cases c

/-- What is seen of a time later than the last. -/
theorem later {x y : Nat} (hx : x < 2 ^ 64) (hy : y < 2 ^ 64) (nx : Fl.nan x = false) (ny : Fl.nan y = false) (hi : x ≠ Fl.inf) (hN : y ≠ NI) (h : fle x y = false) :
    Fl.rung x < Fl.inf ∧ Fl.rung y < Fl.inf ∧ Fl.sv y < Fl.sv x := by
  have h1 := fle_false nx ny h
  have r1 := rung_le nx
  have r2 := rung_le ny
  refine ⟨Nat.lt_of_le_of_ne r1 fun e => ?_, Nat.lt_of_le_of_ne r2 fun e => ?_, sv_of_sr h1⟩
  · rcases rung_inf hx e with g | g
    · exact hi g
    · subst g
      have e1 : Fl.sr NI = -(Fl.inf : Int) := by decide
      rw [e1] at h1
      unfold Fl.sr at h1
      split at h1 <;> omega
  · rcases rung_inf hy e with g | g
    · subst g
      have e1 : Fl.sr Fl.inf = (Fl.inf : Int) := by decide
      rw [e1] at h1
      unfold Fl.sr at h1
      split at h1 <;> omega
    · exact hN g

theorem amt_pos {r : Nat} (h : amt r = true) (h64 : r < 2 ^ 64) (h0 : feq r 0 = false) : r ≤ Fl.inf ∧ r ≠ 0 := by
  rcases (amt_iff h64).1 h with g | g
  · refine ⟨g, fun e => ?_⟩
    subst e
    revert h0; decide
  · subst g
    revert h0; decide

theorem grown_some {b : Bk} (hb : b.Ok) {now : Nat} (hn : now < 2 ^ 64) (nn : Fl.nan now = false) (hi : now ≠ Fl.inf) (hN : b.t ≠ NI) (hl : fle now b.t = false) (hr : b.r ≠ Fl.inf) (h0 : feq b.r 0 = false) :
    ∃ d p v, Ieee.double.sub now b.t = some d ∧ Ieee.double.mul d b.r = some p ∧ Ieee.double.add b.l p = some v ∧ d ≤ Fl.inf ∧ p ≤ Fl.inf ∧ v ≤ Fl.inf ∧ b.grown now = v := by
  obtain ⟨r1, r2, hv⟩ := later hn hb.t64 nn hb.tn hi hN hl
  obtain ⟨p1, p2⟩ := amt_pos hb.ra hb.r64 h0
  have p3 : b.r < Fl.inf := by omega
  have hl2 : b.l < Fl.inf := Nat.lt_of_le_of_lt hb.ls hb.sb
  obtain ⟨d, h1, hd⟩ : ∃ d, Ieee.double.sub now b.t = some d ∧ d ≤ Fl.inf := ⟨_, Fl.sub_ge r1 r2 hv, Fl.rnd_le _⟩
  obtain ⟨p, h2, hp⟩ : ∃ p, Ieee.double.mul d b.r = some p ∧ p ≤ Fl.inf := by
    rcases Nat.lt_or_eq_of_le hd with g | g
    · exact ⟨_, Fl.mul_pos g p3, Fl.rnd_le _⟩
    · subst g
      exact ⟨_, Fl.mul_inf p2 p3, Nat.le_refl _⟩
  obtain ⟨v, h3, hv3⟩ : ∃ v, Ieee.double.add b.l p = some v ∧ v ≤ Fl.inf := by
    rcases Nat.lt_or_eq_of_le hp with g | g
    · exact ⟨_, Fl.add_pos hl2 g, Fl.rnd_le _⟩
    · subst g
      exact ⟨_, Fl.add_inf hl2, Nat.le_refl _⟩
  refine ⟨d, p, v, h1, h2, h3, hd, hp, hv3, ?_⟩
  unfold Bk.grown
  rw [h1, Option.getD_some, h2, Option.getD_some, h3, Option.getD_some]

theorem lvl_le {b : Bk} (hb : b.Ok) (now : Nat) : b.lvl now ≤ b.s := by
  unfold Bk.lvl
  split
  · exact hb.ls
  · split
    · exact Nat.le_refl _
    · split
      · exact hb.ls
      · exact Nat.min_le_left _ _

theorem alloc_at (w : World) (o : Obj) : (w.alloc o).heap[w.heap.size]? = some o := by
  show (w.heap.push o)[w.heap.size]? = some o
  simp

/-- A bucket in the memory, of the type T. -/
structure BkT (T : TypeId) (w : World) (p : Nat) (b : Bk) : Prop where
  blk : w.heap[p]? = some (.cells #[.float .f64 b.r, .float .f64 b.s, .float .f64 b.l, .float .f64 b.t] T (0, 0))

section
variable {T : TypeId} {w : World} {p : Nat} {b : Bk}
theorem BkT.c0 (h : BkT T w p b) : w.cell? ⟨p, 0, none⟩ = some (.float .f64 b.r) := by rw [cell_of_block h.blk]; rfl
theorem BkT.c1 (h : BkT T w p b) : w.cell? ⟨p, 1, none⟩ = some (.float .f64 b.s) := by rw [cell_of_block h.blk]; rfl
theorem BkT.c2 (h : BkT T w p b) : w.cell? ⟨p, 2, none⟩ = some (.float .f64 b.l) := by rw [cell_of_block h.blk]; rfl
theorem BkT.c3 (h : BkT T w p b) : w.cell? ⟨p, 3, none⟩ = some (.float .f64 b.t) := by rw [cell_of_block h.blk]; rfl
theorem BkT.fz (h : BkT T w p b) (i : Nat) : w.frozen? ⟨p, i, none⟩ = false := unfrozen_of_block h.blk i
theorem BkT.lt (h : BkT T w p b) : p < w.heap.size := (Array.getElem?_eq_some_iff.1 h.blk).1
theorem BkT.keep {S : Nat → Prop} {w' : World} (h : BkT T w p b) (hk : Keep S w w') (hp : ¬ S p) : BkT T w' p b := ⟨(hk.block p h.lt hp).trans h.blk⟩
theorem BkT.drewN (h : BkT T w p b) (n : Nat) : BkT T (w.drewN n) p b := ⟨h.blk⟩
theorem BkT.below {w' : World} (h : BkT T w p b) (hk : Below w.heap.size w w') : BkT T w' p b := h.keep (S := fun _ => False) (Keep.ofBelow hk) (fun h => h)
theorem BkT.setL (h : BkT T w p b) (x : Nat) : BkT T (w.setCell ⟨p, 2, none⟩ (.float .f64 x)) p ⟨b.r, b.s, x, b.t⟩ := ⟨block_setCell h.blk _⟩
theorem BkT.setT (h : BkT T w p b) (x : Nat) : BkT T (w.setCell ⟨p, 3, none⟩ (.float .f64 x)) p ⟨b.r, b.s, b.l, x⟩ := ⟨block_setCell h.blk _⟩
theorem BkT.new (w : World) (b : Bk) : BkT T (w.alloc (Obj.cells #[.float .f64 b.r, .float .f64 b.s, .float .f64 b.l, .float .f64 b.t] T)) w.heap.size b := ⟨alloc_at w _⟩
end

/-- The program's. -/
abbrev BkAt := BkT 56

theorem min_run (t : Array TypeId) (ty : TypeId) (x y : Nat) (hx : x ≤ Fl.inf) (hy : y ≤ Fl.inf) (w : World) : (Builtin.min_ t ty #[.float .f64 x, .float .f64 y]).run Try.prog w = .ok (.float .f64 (min x y)) w := by
  have ho := Fl.order_eq x y (by rw [(Fl.pos_parts hx).2]; exact hx) (by rw [(Fl.pos_parts hy).2]; exact hy)
  rw [sr_pos hx, sr_pos hy, Fl.cmp_int] at ho
  have ho' : FloatKind.f64.format.order x y = some (if (x : Int) < (y : Int) then .lt else if (x : Int) = (y : Int) then .eq else .gt) := ho
  by_cases h1 : x < y
  · rw [if_pos (by omega)] at ho'
    have e : min x y = x := Nat.min_eq_left (by omega)
    simp [Builtin.min_, Builtin.min2, ho', e]
  · rw [if_neg (by omega)] at ho'
    by_cases h2 : x = y
    · subst h2
      rw [if_pos rfl] at ho'
      simp [Builtin.min_, Builtin.min2, ho']
    · rw [if_neg (by omega)] at ho'
      have e : min x y = y := Nat.min_eq_right (by omega)
      simp [Builtin.min_, Builtin.min2, ho', e]

set_option maxRecDepth 100000 in
set_option maxHeartbeats 2000000 in
theorem level_any (p : Nat) (b : Bk) (hb : b.Ok) (now : Nat) (hn : now < 2 ^ 64) (w : World) (hB : BkAt w p b) :
    Calls Try.prog 13 #[.pointer (some ⟨p, 0, none⟩), .float .f64 now] w fun e w' => e = .returned (.float .f64 (b.lvl now)) ∧ ∃ k, w' = w.drewN k := by
  have iN := fun w => isNaN_any now w
  have iT := fun w => isInf_neg b.t hb.t64 w
  have iR := fun w => isInf_pos b.r hb.r64 w
  have iW := fun w => isInf_pos now hn w
  have h0 := hB.c0
  have h1 := hB.c1
  have h2 := hB.c2
  have h3 := hB.c3
  have hle := f64_le now b.t
  have heq := f64_eq b.r 0
  have hne := f64_ne b.r 0
  cases gn : Fl.nan now with
  | true =>
    have HE : Hid (b.lvl now = b.l) := by unfold Hid Bk.lvl Bk.old; rw [gn]; rfl
    rw [gn] at iN
    generalize decide (b.t = NI) = bt at iT
    go_enter Try.func13, Try.ntmps13
    go_wp2_with (first
      | (go_at_call 24; refine (iN _).mono ?_; rintro e w1 ⟨rfl, rfl⟩)
      | (go_at_call 20; refine (iT _).mono ?_; clear iT; rintro e w1 ⟨rfl, rfl⟩))
    go_ret
    exact ⟨by rw [HE.out]; rfl, 0, rfl⟩
  | false =>
  rw [gn] at iN
  by_cases gt : b.t = NI
  · have HE : Hid (b.lvl now = b.l) := by unfold Hid Bk.lvl Bk.old; rw [gn, decide_eq_true gt]; rfl
    rw [decide_eq_true gt] at iT
    clear gt
    go_enter Try.func13, Try.ntmps13
    go_wp2_with (first
      | (go_at_call 24; refine (iN _).mono ?_; rintro e w1 ⟨rfl, rfl⟩)
      | (go_at_call 20; refine (iT _).mono ?_; clear iT; rintro e w1 ⟨rfl, rfl⟩))
    go_ret
    exact ⟨by rw [HE.out]; rfl, 0, rfl⟩
  rw [decide_eq_false gt] at iT
  cases gl : fle now b.t with
  | true =>
    have HE : Hid (b.lvl now = b.l) := by unfold Hid Bk.lvl Bk.old; rw [gn, decide_eq_false gt, gl]; rfl
    rw [gl] at hle
    clear gt
    go_enter Try.func13, Try.ntmps13
    go_wp2_with (first
      | (go_at_call 24; refine (iN _).mono ?_; rintro e w1 ⟨rfl, rfl⟩)
      | (go_at_call 20; refine (iT _).mono ?_; clear iT; rintro e w1 ⟨rfl, rfl⟩))
    go_ret
    exact ⟨by rw [HE.out]; rfl, 0, rfl⟩
  | false =>
  have ho : b.old now = false := by unfold Bk.old; rw [gn, decide_eq_false gt, gl]; rfl
  rw [gl] at hle
  by_cases gr : b.r = Fl.inf
  · have HE : Hid (b.lvl now = b.s) := by unfold Hid Bk.lvl Bk.full; rw [ho, decide_eq_true gr]; rfl
    rw [decide_eq_true gr] at iR
    clear gt gr heq hne
    go_enter Try.func13, Try.ntmps13
    go_wp2_with (first
      | (go_at_call 24; refine (iN _).mono ?_; rintro e w1 ⟨rfl, rfl⟩)
      | (go_at_call 20; first | (refine (iT _).mono ?_; clear iT; rintro e w1 ⟨rfl, rfl⟩) | (refine (iR _).mono ?_; clear iR; rintro e w1 ⟨rfl, rfl⟩)))
    go_ret
    exact ⟨by rw [HE.out]; rfl, 0, rfl⟩
  rw [decide_eq_false gr] at iR
  cases g0 : feq b.r 0 with
  | true =>
    have HE : Hid (b.lvl now = b.l) := by unfold Hid Bk.lvl Bk.full; rw [ho, decide_eq_false gr, g0]; simp
    rw [g0] at heq hne
    clear gt gr
    generalize decide (now = Fl.inf) = bw at iW
    cases bw
    · go_enter Try.func13, Try.ntmps13
      go_wp2_with (first
        | (go_at_call 24; refine (iN _).mono ?_; rintro e w1 ⟨rfl, rfl⟩)
        | (go_at_call 20; first | (refine (iT _).mono ?_; clear iT; rintro e w1 ⟨rfl, rfl⟩) | (refine (iR _).mono ?_; clear iR; rintro e w1 ⟨rfl, rfl⟩) | (refine (iW _).mono ?_; clear iW; rintro e w1 ⟨rfl, rfl⟩)))
      go_ret
      exact ⟨by rw [HE.out]; rfl, 0, rfl⟩
    · go_enter Try.func13, Try.ntmps13
      go_wp2_with (first
        | (go_at_call 24; refine (iN _).mono ?_; rintro e w1 ⟨rfl, rfl⟩)
        | (go_at_call 20; first | (refine (iT _).mono ?_; clear iT; rintro e w1 ⟨rfl, rfl⟩) | (refine (iR _).mono ?_; clear iR; rintro e w1 ⟨rfl, rfl⟩) | (refine (iW _).mono ?_; clear iW; rintro e w1 ⟨rfl, rfl⟩)))
      go_ret
      exact ⟨by rw [HE.out]; rfl, 0, rfl⟩
  | false =>
  by_cases gw : now = Fl.inf
  · have HE : Hid (b.lvl now = b.s) := by unfold Hid Bk.lvl Bk.full; rw [ho, decide_eq_false gr, decide_eq_true gw, g0]; rfl
    rw [g0] at heq hne
    rw [decide_eq_true gw] at iW
    clear gt gr gw
    go_enter Try.func13, Try.ntmps13
    go_wp2_with (first
      | (go_at_call 24; refine (iN _).mono ?_; rintro e w1 ⟨rfl, rfl⟩)
      | (go_at_call 20; first | (refine (iT _).mono ?_; clear iT; rintro e w1 ⟨rfl, rfl⟩) | (refine (iR _).mono ?_; clear iR; rintro e w1 ⟨rfl, rfl⟩) | (refine (iW _).mono ?_; clear iW; rintro e w1 ⟨rfl, rfl⟩)))
    go_ret
    exact ⟨by rw [HE.out]; rfl, 0, rfl⟩
  obtain ⟨d, q, v, e1, e2, e3, hd, hq, hv, hg⟩ := grown_some hb hn gn gw gt gl gr g0
  have HE : Hid (b.lvl now = min b.s v) := by unfold Hid Bk.lvl Bk.full; rw [ho, decide_eq_false gr, decide_eq_false gw, g0, hg]; rfl
  rw [g0] at heq hne
  rw [decide_eq_false gw] at iW
  have f1 : ∀ w : World, (binOp .sub 24 (.float .f64 now) (.float .f64 b.t)).run Try.prog w = .ok (.float .f64 d) w := fun w => run_float_arith w .sub 24 .f64 now b.t d e1
  have f2 : ∀ w : World, (binOp .mul 24 (.float .f64 d) (.float .f64 b.r)).run Try.prog w = .ok (.float .f64 q) w := fun w => run_float_arith w .mul 24 .f64 d b.r q e2
  have f3 : ∀ w : World, (binOp .add 24 (.float .f64 b.l) (.float .f64 q)).run Try.prog w = .ok (.float .f64 v) w := fun w => run_float_arith w .add 24 .f64 b.l q v e3
  have f4 : ∀ (ts : Array TypeId) (w : World), (Builtin.min_ ts 24 #[.float .f64 b.s, .float .f64 v]).run Try.prog w = .ok (.float .f64 (min b.s v)) w := fun ts w => min_run ts 24 b.s v (Nat.le_of_lt hb.sb) hv w
  clear e1 e2 e3 hg hd hq hv gt gr gw
  go_enter Try.func13, Try.ntmps13
  go_wp2_with (first
    | (go_at_call 24; refine (iN _).mono ?_; rintro e w1 ⟨rfl, rfl⟩)
    | (go_at_call 20; first | (refine (iT _).mono ?_; clear iT; rintro e w1 ⟨rfl, rfl⟩) | (refine (iR _).mono ?_; clear iR; rintro e w1 ⟨rfl, rfl⟩) | (refine (iW _).mono ?_; clear iW; rintro e w1 ⟨rfl, rfl⟩)))
  go_quiet (fail)
  go_wp2
  go_ret
  exact ⟨by rw [HE.out]; rfl, nq, rfl⟩

end Go.Proofs.Ytmlkeobmkjdefaa
