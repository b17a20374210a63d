/- lease: the leases' row in the memory; Less, Swap, Len. -/
import Derived.Test.YtfakcjelibdnbaaHpA
import Derived.BigRegion
import Derived.BigQuiet
import Derived.Lib.SmallJoins
namespace Go.Proofs.Ytfakcjelibdnbaa
open Go.RowKit Go.Joins

def pv (a : El) : Value := .pointer (some ⟨a.b, 0, none⟩)
/-- A lease in the memory, at a place. -/
def LsB (w : World) (a : El) (i : Nat) : Prop := w.heap[a.b]? = some (.cells #[.string a.k, .float .f64 a.e, .int .i64 a.t, .int .i64 i] 70 (0, 0))
theorem LsB.c0 {w : World} {a : El} {i : Nat} (h : LsB w a i) : w.cell? ⟨a.b, 0, none⟩ = some (.string a.k) := by rw [cell_of_block h]; rfl
theorem LsB.c1 {w : World} {a : El} {i : Nat} (h : LsB w a i) : w.cell? ⟨a.b, 1, none⟩ = some (.float .f64 a.e) := by rw [cell_of_block h]; rfl
theorem LsB.c2 {w : World} {a : El} {i : Nat} (h : LsB w a i) : w.cell? ⟨a.b, 2, none⟩ = some (.int .i64 a.t) := by rw [cell_of_block h]; rfl
theorem LsB.c3 {w : World} {a : El} {i : Nat} (h : LsB w a i) : w.cell? ⟨a.b, 3, none⟩ = some (.int .i64 i) := by rw [cell_of_block h]; rfl
theorem LsB.fz {w : World} {a : El} {i : Nat} (h : LsB w a i) (j : Nat) : w.frozen? ⟨a.b, j, none⟩ = false := unfrozen_of_block h j
theorem LsB.lt {w : World} {a : El} {i : Nat} (h : LsB w a i) : a.b < w.heap.size := (Array.getElem?_eq_some_iff.1 h).1
theorem LsB.keep {S : Nat → Prop} {w w' : World} {a : El} {i : Nat} (h : LsB w a i) (hk : Keep S w w') (hp : ¬ S a.b) : LsB w' a i := (hk.block a.b h.lt hp).trans h

/-- The row's slice. -/
def sl (g : Option Nat) (n c : Nat) : Value := .slice (g.map fun b => ⟨b, 0, none⟩) n c

/-- The row's cells. -/
def Rw (w : World) (b n c : Nat) (d : Nat → El) : Prop := ∃ cur, w.heap[b]? = some (.cells cur 71 (0, 0)) ∧ cur.size = c ∧ ∀ i, i < n → cur[i]? = some (pv (d i))
theorem Rw.cell {w : World} {b n c : Nat} {d : Nat → El} (h : Rw w b n c d) {i : Nat} (hi : i < n) : w.cell? ⟨b, i, none⟩ = some (.pointer (some ⟨(d i).b, 0, none⟩)) := by
  obtain ⟨cur, h1, h2, h3⟩ := h
  rw [cell_of_block h1]
  exact h3 i hi
theorem Rw.fz {w : World} {b n c : Nat} {d : Nat → El} (h : Rw w b n c d) (i : Nat) : w.frozen? ⟨b, i, none⟩ = false := by
  obtain ⟨cur, h1, _⟩ := h
  exact unfrozen_of_block h1 i
theorem Rw.ext {w : World} {b n c : Nat} {d e : Nat → El} (h : Rw w b n c d) (he : ∀ i, i < n → e i = d i) : Rw w b n c e := by
  obtain ⟨cur, h1, h2, h3⟩ := h
  exact ⟨cur, h1, h2, fun i hi => by rw [he i hi]; exact h3 i hi⟩
theorem Rw.set {w : World} {b n c : Nat} {d : Nat → El} (h : Rw w b n c d) (i : Nat) (a : El) (hi : i < c) : Rw (w.setCell ⟨b, i, none⟩ (.pointer (some ⟨a.b, 0, none⟩))) b n c (fun k => if k = i then a else d k) := by
  obtain ⟨cur, h1, h2, h3⟩ := h
  refine ⟨_, block_setCell h1 _, by simp [h2], fun k hk => ?_⟩
  by_cases e : k = i
  · subst e
    simp [pv, h2, hi]
  · simp only [if_neg e]
    rw [← h3 k hk]
    simp [Ne.symm e]
theorem set_other {w : World} {p : Addr} {v : Value} {k : Nat} (h : k ≠ p.block) : (w.setCell p v).heap[k]? = w.heap[k]? := Below.heap_setCell _ _ _ _ h
theorem Rw.other {w : World} {b n c : Nat} {d : Nat → El} (h : Rw w b n c d) {p : Addr} (hp : b ≠ p.block) (v : Value) : Rw (w.setCell p v) b n c d := by
  obtain ⟨cur, h1, h2⟩ := h
  exact ⟨cur, (set_other hp).trans h1, h2⟩
theorem LsB.put {w : World} {a : El} {i : Nat} (h : LsB w a i) (j : Nat) : LsB (w.setCell ⟨a.b, 3, none⟩ (.int .i64 j)) a j := block_setCell h _
theorem LsB.other {w : World} {a : El} {i : Nat} (h : LsB w a i) {p : Addr} (hp : a.b ≠ p.block) (v : Value) : LsB (w.setCell p v) a i := (set_other hp).trans h
theorem LsB.notRow {w : World} {a : El} {i b n c : Nat} {d : Nat → El} (h : LsB w a i) (hr : Rw w b n c d) : a.b ≠ b := by
  obtain ⟨cur, h1, _⟩ := hr
  intro e
  unfold LsB at h
  rw [e, h1] at h
  injection h with h
  injection h with _ h _
  exact absurd h (by decide)

structure Od (w : World) (g : Option Nat) (n c : Nat) (d : Nat → El) : Prop where
  row : ∀ b, g = some b → Rw w b n c d
  nil : g = none → n = 0 ∧ c = 0
  le : n ≤ c
  cl : c ≤ maxLen
  few : n ≤ 1000000
  ls : ∀ i, i < n → LsB w (d i) i
  inj : Inj d n
  ok : ∀ i, i < n → Fl.nan (d i).e = false ∧ (d i).t < 4611686018427387904

section
variable {w : World} {g : Option Nat} {n c : Nat} {d : Nat → El}
theorem Od.has (h : Od w g n c d) (hn : 0 < n) : ∃ b, g = some b := by
  cases g with
  | none => have := h.nil rfl; omega
  | some b => exact ⟨b, rfl⟩
theorem Od.drew (h : Od w g n c d) : Od w.drew g n c d := ⟨h.row, h.nil, h.le, h.cl, h.few, h.ls, h.inj, h.ok⟩
theorem Od.drewN (h : Od w g n c d) (k : Nat) : Od (w.drewN k) g n c d := ⟨h.row, h.nil, h.le, h.cl, h.few, h.ls, h.inj, h.ok⟩
/-- What it lies in. -/
def OF (g : Option Nat) (n : Nat) (d : Nat → El) (b : Nat) : Prop := g = some b ∨ ∃ i, i < n ∧ (d i).b = b
theorem Od.keep {S : Nat → Prop} {w' : World} (h : Od w g n c d) (hk : Keep S w w') (hS : ∀ b, OF g n d b → ¬ S b) : Od w' g n c d :=
  ⟨fun b e => by
    obtain ⟨cur, h1, h2⟩ := h.row b e
    exact ⟨cur, (hk.block b (Array.getElem?_eq_some_iff.1 h1).1 (hS b (.inl e))).trans h1, h2⟩,
   h.nil, h.le, h.cl, h.few, fun i hi => (h.ls i hi).keep hk (hS _ (.inr ⟨i, hi, rfl⟩)), h.inj, h.ok⟩
end

theorem lt_dec {a b : El} (ha : Fl.nan a.e = false) (hb : Fl.nan b.e = false) : decide (a.Lt b) = if feq a.e b.e then decide (a.t < b.t) else flt a.e b.e := by
  unfold feq flt El.Lt El.x
  rw [ha, hb]
  simp only [Bool.not_false, Bool.true_and]
  by_cases h : Fl.sr a.e = Fl.sr b.e
  · rw [decide_eq_true h, if_pos rfl]
    congr 1
    simp [h]
  · rw [decide_eq_false h]
    simp [h]

set_option maxHeartbeats 1000000 in
theorem less_any (b n c : Nat) (d : Nat → El) (i j : Nat) (hi : i < n) (hj : j < n) (w : World) (h : Od w (some b) n c d) :
    Calls Try.prog 62 #[sl (some b) n c, .int .i64 i, .int .i64 j] w fun e w' => e = .returned (.bool (decide ((d i).Lt (d j)))) ∧ ∃ k, w' = w.drewN k := by
  have c0 : w.cell? ⟨b, i, none⟩ = some (.pointer (some ⟨(d i).b, 0, none⟩)) := (h.row b rfl).cell hi
  have c1 : w.cell? ⟨b, j, none⟩ = some (.pointer (some ⟨(d j).b, 0, none⟩)) := (h.row b rfl).cell hj
  have e0 := (h.ls i hi).c1
  have e1 := (h.ls j hj).c1
  have t0 := (h.ls i hi).c2
  have t1 := (h.ls j hj).c2
  have hne := f64_ne (d i).e (d j).e
  have hlt := f64_lt (d i).e (d j).e
  have HD : Hid _ := lt_dec (h.ok i hi).1 (h.ok j hj).1
  have hit : (i : Int) < (n : Int) := by omega
  have hjt : (j : Int) < (n : Int) := by omega
  clear h
  unfold sl
  cases hf : feq (d i).e (d j).e with
  | false =>
    rw [hf] at hne HD
    have HD2 : Hid (decide ((d i).Lt (d j)) = flt (d i).e (d j).e) := HD.out
    clear hf HD
    go_enter Try.func62, Try.ntmps62
    go_wp2
    go_quiet (fail)
    go_wp2
    go_quiet (fail)
    go_wp2
    go_quiet (fail)
    go_wp2
    go_ret
    exact ⟨by rw [HD2.out]; rfl, _, (by simp only [World.drewN_drewN]; rfl)⟩
  | true =>
    rw [hf] at hne HD
    have HD2 : Hid (decide ((d i).Lt (d j)) = decide ((d i).t < (d j).t)) := HD.out
    clear hf HD
    go_enter Try.func62, Try.ntmps62
    go_wp2
    go_quiet (fail)
    go_wp2
    go_quiet (fail)
    go_wp2
    go_quiet (fail)
    go_wp2
    go_ret
    exact ⟨by rw [HD2.out]; simp, _, (by simp only [World.drewN_drewN]; rfl)⟩

theorem len_any (g : Option Nat) (n c : Nat) (w : World) : Calls Try.prog 61 #[sl g n c] w fun e w' => e = .returned (.int .i64 n) ∧ w' = w := by
  unfold sl
  go_enter Try.func61, Try.ntmps61
  go_wp2
  go_ret
  exact ⟨rfl, rfl⟩

set_option maxHeartbeats 1000000 in
theorem swap_any (b n c : Nat) (d : Nat → El) (i j : Nat) (hi : i < n) (hj : j < n) (w : World) (h : Od w (some b) n c d) :
    Calls Try.prog 63 #[sl (some b) n c, .int .i64 i, .int .i64 j] w fun e w' => e = .returned (.tuple #[]) ∧ Od w' (some b) n c (sw d i j) ∧ Keep (OF (some b) n d) w w' := by
  have c0 : w.cell? ⟨b, i, none⟩ = some (.pointer (some ⟨(d i).b, 0, none⟩)) := (h.row b rfl).cell hi
  have c1 : w.cell? ⟨b, j, none⟩ = some (.pointer (some ⟨(d j).b, 0, none⟩)) := (h.row b rfl).cell hj
  have f0 := (h.row b rfl).fz i
  have f1 := (h.row b rfl).fz j
  have hit : (i : Int) < (n : Int) := by omega
  have hjt : (j : Int) < (n : Int) := by omega
  have R1 := ((h.row b rfl).set i (d j) (Nat.lt_of_lt_of_le hi h.le))
  have c2 := R1.cell hj
  have R2 := R1.set j (d i) (Nat.lt_of_lt_of_le hj h.le)
  have R3 : Rw _ b n c (sw d i j) := R2.ext (fun k hk => by
    unfold sw
    by_cases e1 : k = i
    · by_cases e2 : k = j
      · rw [if_pos e1, if_pos e2, ← e1, ← e2]
      · rw [if_pos e1, if_neg e2, if_pos e1]
    · by_cases e2 : k = j
      · rw [if_neg e1, if_pos e2, if_pos e2]
      · rw [if_neg e1, if_neg e2, if_neg e2, if_neg e1])
  have hl := h.ls
  have hr := h.row b rfl
  have hL1 : ∀ k, k < n → LsB ((w.setCell ⟨b, i, none⟩ (.pointer (some ⟨(d j).b, 0, none⟩))).setCell ⟨b, j, none⟩ (.pointer (some ⟨(d i).b, 0, none⟩))) (d k) k := fun k hk => ((hl k hk).other ((hl k hk).notRow hr) _).other ((hl k hk).notRow hr) _
  have hK1 : Keep (OF (some b) n d) w ((w.setCell ⟨b, i, none⟩ (.pointer (some ⟨(d j).b, 0, none⟩))).setCell ⟨b, j, none⟩ (.pointer (some ⟨(d i).b, 0, none⟩))) := ((Keep.refl _ _).setCell (.inl rfl) _).setCell (.inl rfl) _
  obtain ⟨w1, hw1⟩ : ∃ w1, (w.setCell ⟨b, i, none⟩ (.pointer (some ⟨(d j).b, 0, none⟩))).setCell ⟨b, j, none⟩ (.pointer (some ⟨(d i).b, 0, none⟩)) = w1 := ⟨_, rfl⟩
  rw [hw1] at R3 hL1 hK1
  have a0 : w1.cell? ⟨b, i, none⟩ = some (.pointer (some ⟨(d j).b, 0, none⟩)) := by have := R3.cell hi; rwa [sw_l] at this
  have a1 : w1.cell? ⟨b, j, none⟩ = some (.pointer (some ⟨(d i).b, 0, none⟩)) := by have := R3.cell hj; rwa [sw_r] at this
  have p0 := (hL1 j hj).c3
  have q0 := (hL1 j hj).fz 3
  have q1 := (hL1 i hi).fz 3
  have hinj := h.inj
  have L3 : ∀ k, k < n → LsB ((w1.setCell ⟨(d j).b, 3, none⟩ (.int .i64 i)).setCell ⟨(d i).b, 3, none⟩ (.int .i64 j)) (sw d i j k) k := fun k hk => by
    obtain ⟨y, hy, e, cs⟩ := sw_at d hi hj k hk
    rw [e]
    rcases cs with ⟨e1, e2⟩ | ⟨e1, e2⟩ | ⟨e1, e2, e3⟩
    · subst e1; subst e2
      by_cases g : k = y
      · subst g; exact ((hL1 k hk).put k).put k
      · exact ((hL1 y hy).put k).other (fun e => g (hinj _ _ hk hy e.symm)) _
    · subst e1; subst e2
      by_cases g : k = y
      · subst g; exact ((hL1 k hk).put k).put k
      · exact ((hL1 y hy).other (p := ⟨(d k).b, 3, none⟩) (fun e => g (hinj _ _ hk hy e.symm)) _).put k
    · subst e3
      exact ((hL1 y hy).other (p := ⟨(d j).b, 3, none⟩) (fun e => e2 (hinj _ _ hy hj e)) _).other (fun e => e1 (hinj _ _ hy hi e)) _
  have p1 : (w1.setCell ⟨(d j).b, 3, none⟩ (.int .i64 i)).cell? ⟨(d i).b, 3, none⟩ = some (.int .i64 i) := by
    by_cases g : (d i).b = (d j).b
    · have e := hinj _ _ hi hj g
      subst e
      exact ((hL1 i hi).put i).c3
    · exact ((hL1 i hi).other (p := ⟨(d j).b, 3, none⟩) g _).c3
  have K3 : Keep (OF (some b) n d) w ((w1.setCell ⟨(d j).b, 3, none⟩ (.int .i64 i)).setCell ⟨(d i).b, 3, none⟩ (.int .i64 j)) := (hK1.setCell (.inr ⟨j, hj, rfl⟩) _).setCell (.inr ⟨i, hi, rfl⟩) _
  have O3 : Od ((w1.setCell ⟨(d j).b, 3, none⟩ (.int .i64 i)).setCell ⟨(d i).b, 3, none⟩ (.int .i64 j)) (some b) n c (sw d i j) :=
    ⟨fun b' e => by cases e; exact (R3.other (Ne.symm ((hL1 j hj).notRow R3)) _).other (Ne.symm ((hL1 i hi).notRow R3)) _, fun e => (by cases e), h.le, h.cl, h.few, L3, hinj.sw hi hj, fun k hk => by
      obtain ⟨y, hy, e, _⟩ := sw_at d hi hj k hk
      rw [e]; exact h.ok y hy⟩
  have HO : Hid _ := O3
  have HK : Hid _ := K3
  clear h R1 R2 R3 hl hr hL1 hK1 hinj L3 K3 O3
  unfold sl
  go_enter Try.func63, Try.ntmps63
  go_wp2
  go_region
  clear hw1 c0 c1 c2
  go_wp2
  go_region
  go_wp2
  go_end0
  exact ⟨rfl, HO.out.drew.drew, HK.out.drew.drew⟩

end Go.Proofs.Ytfakcjelibdnbaa
