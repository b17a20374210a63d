/- meter: the laws' asks; two buckets side by side; a rate that is nothing, with its sign or without. -/
import Derived.Test.YtmlkeobmkjdefaaMtR
import Derived.Test.YtmlkeobmkjdefaaMtW
import Derived.Deep.CutRange
namespace Go.Proofs.Ytmlkeobmkjdefaa
open Go.RowKit

/-- A row of asks. -/
structure ARd (w : World) (a : Option Addr) (n c : Nat) : Prop where
  cap : n ≤ c
  most : c ≤ maxLen
  flat : 0 < n → ∃ b off, a = some ⟨b, off, none⟩ ∧ ∀ j, j < n → ∃ (D : Int) (T C : Nat), T < 2 ^ 64 ∧ C < 2 ^ 64 ∧ w.cell? ⟨b, off + j * 3, none⟩ = some (.int .i64 D) ∧ w.cell? ⟨b, off + j * 3 + 1, none⟩ = some (.int .u64 (T : Int)) ∧ w.cell? ⟨b, off + j * 3 + 2, none⟩ = some (.int .u64 (C : Int))

theorem ARd.below {w w' : World} {a : Option Addr} {n c : Nat} (h : ARd w a n c) (hb : Below w.heap.size w w') : ARd w' a n c :=
  ⟨h.cap, h.most, fun hn => by
    obtain ⟨b, off, ha, hc⟩ := h.flat hn
    refine ⟨b, off, ha, fun j hj => ?_⟩
    obtain ⟨D, T, C, t1, t2, h1, h2, h3⟩ := hc j hj
    exact ⟨D, T, C, t1, t2, (hb.cell (World.block_lt_of_cell? w _ h1)).trans h1, (hb.cell (World.block_lt_of_cell? w _ h2)).trans h2, (hb.cell (World.block_lt_of_cell? w _ h3)).trans h3⟩⟩

def natV : Value → Nat
  | .int _ z => z.toNat
  | _ => 0

/-- The same bucket, its rate without a sign where it is nothing. -/
def Bk.flat (b : Bk) : Bk := ⟨nz b.r, b.s, b.l, b.t⟩

theorem nz_cases {r : Nat} (h : amt r = true) (h64 : r < 2 ^ 64) : nz r = r ∨ (r = Fl.sgn ∧ nz r = 0) := by
  rcases (amt_iff h64).1 h with g | g
  · left
    unfold nz
    rw [feq_pos g zero_inf]
    by_cases hx : r = 0
    · subst hx; rfl
    · rw [decide_eq_false hx]; rfl
  · right
    subst g
    decide

theorem flat_ok {b : Bk} (hb : b.Ok) : b.flat.Ok := ⟨(nz_amt hb.ra hb.r64).1, (nz_amt hb.ra hb.r64).2, hb.sb, hb.ls, hb.tn, hb.t64⟩

theorem flat_lvl {b : Bk} (hb : b.Ok) (now : Nat) : b.flat.lvl now = b.lvl now := by
  rcases nz_cases hb.ra hb.r64 with g | ⟨g1, g2⟩
  · unfold Bk.flat; rw [g]
  · unfold Bk.flat Bk.lvl Bk.old Bk.full
    dsimp only
    have a1 : feq 0 0 = true := by decide
    have a2 : feq Fl.sgn 0 = true := by decide
    have a3 : decide ((0 : Nat) = Fl.inf) = false := by decide
    have a4 : decide (Fl.sgn = Fl.inf) = false := by decide
    rw [g2, g1, a1, a2, a3, a4]
    simp

theorem flat_wt {b : Bk} (hb : b.Ok) (now cost : Nat) : b.flat.wt now cost = b.wt now cost := by
  unfold Bk.wt
  rw [flat_lvl hb]
  rcases nz_cases hb.ra hb.r64 with g | ⟨g1, g2⟩
  · unfold Bk.flat; rw [g]
  · unfold Bk.flat
    dsimp only
    have a1 : feq 0 0 = true := by decide
    have a2 : feq Fl.sgn 0 = true := by decide
    rw [g2, g1, a1, a2]
    simp

theorem flat_tk {b : Bk} (hb : b.Ok) (now cost : Nat) : (b.flat.tk now cost).1 = (b.tk now cost).1 ∧ (b.flat.tk now cost).2 = (b.tk now cost).2.flat := by
  have hl := flat_lvl hb now
  have hs : b.flat.seen now = (b.seen now).flat := by
    unfold Bk.seen
    show (if flt b.t now = true then _ else _) = _
    cases flt b.t now with
    | true => rw [if_pos rfl, if_pos rfl, hl]; rfl
    | false => rfl
  have e1 : (b.seen now).flat.l = (b.seen now).l := rfl
  have e2 : (b.seen now).flat.less cost = ((b.seen now).less cost).flat := rfl
  have e3 : b.flat.s = b.s := rfl
  unfold Bk.tk
  rw [hs, e1, e2, e3]
  split
  · exact ⟨rfl, rfl⟩
  · split <;> exact ⟨rfl, rfl⟩

/-- The program's bucket, new since w0. -/
structure One (w0 : World) (p : Nat) (wr : World) (b : Bk) : Prop where
  at_ : BkAt wr p b
  ok : b.Ok
  bel : Below w0.heap.size w0 wr
  new : w0.heap.size ≤ p

theorem One.drewN {w0 wr : World} {p : Nat} {b : Bk} (h : One w0 p wr b) (k : Nat) : One w0 p (wr.drewN k) b :=
  ⟨h.at_.drewN k, h.ok, h.bel.trans (((Keep.refl (fun _ => False) wr).drewN k).below h.bel.size (fun _ h => h.elim)), h.new⟩
theorem One.turn {w0 wr w' : World} {p : Nat} {b b' : Bk} (h : One w0 p wr b) (hk : Keep (fun k => k = p) wr w') (ha : BkAt w' p b') (hb : b'.Ok) : One w0 p w' b' :=
  ⟨ha, hb, h.bel.trans (hk.below h.bel.size (fun k e => by subst e; exact h.new)), h.new⟩
theorem One.below {w0 wr w' : World} {p : Nat} {b : Bk} (h : One w0 p wr b) (hb : Below wr.heap.size wr w') : One w0 p w' b :=
  ⟨h.at_.below hb, h.ok, h.bel.trans (hb.mono h.bel.size), h.new⟩

/-- Both buckets. -/
structure Duo (w0 : World) (p q : Nat) (wr : World) (b : Bk) : Prop where
  one : One w0 p wr b
  ref : RBAt wr q b.flat
  ne : p ≠ q
  new : w0.heap.size ≤ q

theorem Duo.drewN {w0 wr : World} {p q : Nat} {b : Bk} (h : Duo w0 p q wr b) (k : Nat) : Duo w0 p q (wr.drewN k) b := ⟨h.one.drewN k, h.ref.drewN k, h.ne, h.new⟩

end Go.Proofs.Ytmlkeobmkjdefaa
