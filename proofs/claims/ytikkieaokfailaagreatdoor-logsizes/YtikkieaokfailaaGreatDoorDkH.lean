/- The document's disk in memory; its small functions: at, right, first, power, Used. -/
import Derived.Test.YtikkieaokfailaaGreatDoorDkY
namespace Go.Proofs.YtikkieaokfailaaGreatDoor
open Go.RowKit Go.Joins

/-- The cells of a row of files; sl: where each name's bytes lie. -/
def ev (sl : Nm → Value) : Fls → List Value
  | [] => []
  | x :: r => .string x.1 :: sl x.1 :: .int .i64 (x.2.safe : Int) :: ev sl r
theorem ev_len (sl : Nm → Value) (l : Fls) : (ev sl l).length = l.length * 3 := by
  induction l with
  | nil => rfl
  | cons x r ih => simp only [ev, List.length_cons, ih]; omega
theorem ev_app (sl : Nm → Value) (a b : Fls) : ev sl (a ++ b) = ev sl a ++ ev sl b := by
  induction a with
  | nil => rfl
  | cons x r ih => simp only [List.cons_append, ev, ih]
theorem ev_get (sl : Nm → Value) (l : Fls) (i : Nat) (x : Nm × Fle) (h : l[i]? = some x) : (ev sl l)[i * 3]? = some (.string x.1) ∧ (ev sl l)[i * 3 + 1]? = some (sl x.1) ∧ (ev sl l)[i * 3 + 2]? = some (.int .i64 (x.2.safe : Int)) := by
  induction l generalizing i with
  | nil => simp at h
  | cons y r ih =>
    cases i with
    | zero =>
      simp only [List.getElem?_cons_zero, Option.some.injEq] at h
      subst h
      exact ⟨rfl, rfl, rfl⟩
    | succ i =>
      rw [List.getElem?_cons_succ] at h
      have := ih i h
      have e1 : (i + 1) * 3 = i * 3 + 3 := by omega
      have e2 : (i + 1) * 3 + 1 = i * 3 + 1 + 3 := by omega
      have e3 : (i + 1) * 3 + 2 = i * 3 + 2 + 3 := by omega
      rw [e2, e3, e1]
      exact this
theorem ev_congr {sl sl' : Nm → Value} {l : Fls} (h : ∀ x ∈ l, sl x.1 = sl' x.1) : ev sl l = ev sl' l := by
  induction l with
  | nil => rfl
  | cons x r ih =>
    unfold ev
    rw [h x (List.mem_cons_self ..), ih (fun y hy => h y (List.mem_cons_of_mem _ hy))]
theorem ev_one (sl : Nm → Value) (hs : ∀ s, ∃ a n c, sl s = .slice a n c) (l : Fls) : ∀ u ∈ ev sl l, u.oneCell' = true := by
  induction l with
  | nil => intro u hu; cases hu
  | cons x r ih =>
    intro u hu
    rcases List.mem_cons.1 hu with rfl | hu
    · rfl
    · rcases List.mem_cons.1 hu with rfl | hu
      · obtain ⟨a, n, c, e⟩ := hs x.1
        rw [e]; rfl
      · rcases List.mem_cons.1 hu with rfl | hu
        · rfl
        · exact ih u hu

def leftK (k : Dk) : Int := match k.fu with | none => -1 | some n => (n : Int)
def rcsR (k : Dk) (v : Value) : Array Value := #[v, .int .i64 (k.room : Int), .int .i64 (k.steps : Int), .bool k.off, .int .i64 (leftK k)]
/-- A file's bytes lie there, in a block of G. -/
def Lies (w : World) (G : Nat → Prop) (v : Value) (f : Fle) : Prop := w.ownsRow 0 5 1 v f.b.length (bc f.b) ∧ ∀ g, v.ownBlock = some g → G g
structure RefAt (w : World) (G : Nat → Prop) (rd : Nat) (k : Dk) : Prop where
  ex : ∃ v sl, w.heap[rd]? = some (.cells (rcsR k v) 93 (0, 0)) ∧ w.ownsRow 0 113 3 v k.fs.length (ev sl k.fs) ∧ (∀ g, v.ownBlock = some g → G g) ∧ (∀ x ∈ k.fs, Lies w G (sl x.1) x.2) ∧ (∀ s, ∃ a n c, sl s = .slice a n c)
  grd : G rd
  lt : ∀ i, G i → i < w.heap.size
  good : k.Good

theorem Lies.keep {S G G' : Nat → Prop} {w w' : World} {v : Value} {f : Fle} (h : Lies w G v f) (hk : Keep S w w') (hs : ∀ i, v.ownBlock = some i → ¬ S i) (hG : ∀ i, G i → G' i) : Lies w' G' v f :=
  ⟨own_keep h.1 hk hs, fun g hg => hG g (h.2 g hg)⟩
theorem own_blk {w : World} {B sz n : Nat} {t : TypeId} {v : Value} {xs : List Value} (h : w.ownsRow B t sz v n xs) {g : Nat} (hg : v.ownBlock = some g) : ∃ cur, w.heap[g]? = some (.cells cur t (0, 0)) := by
  rcases h.2 with ⟨h1, _⟩ | ⟨g', cap, cur, h1, _, h2, _⟩
  · rw [h1] at hg; cases hg
  · rw [h1] at hg
    have : g' = g := by simpa [Value.ownBlock] using hg
    subst this
    exact ⟨cur, h2⟩
theorem RefAt.keep {S G : Nat → Prop} {w w' : World} {rd : Nat} {k : Dk} (h : RefAt w G rd k) (hk : Keep S w w') (hs : ∀ i, G i → ¬ S i) : RefAt w' G rd k := by
  obtain ⟨⟨v, sl, h1, h2, h3, h4, h5⟩, h6, h7, h8⟩ := h
  exact ⟨⟨v, sl, box_keep h1 hk (hs _ h6), own_keep h2 hk (fun g hg => hs g (h3 g hg)), h3, fun x hx => (h4 x hx).keep hk (fun g hg => hs g ((h4 x hx).2 g hg)) (fun _ h => h), h5⟩, h6, fun i hi => Nat.lt_of_lt_of_le (h7 i hi) hk.size, h8⟩
theorem RefAt.below {G : Nat → Prop} {w w' : World} {rd : Nat} {k : Dk} (h : RefAt w G rd k) (hb : Below w.heap.size w w') : RefAt w' G rd k := h.keep (S := fun _ => False) (Keep.ofBelow hb) (fun _ _ h => h)

/-- What a call of the document's disk leaves. -/
def Rp (w : World) (G : Nat → Prop) (rd : Nat) (k' : Dk) (w' : World) : Prop := ∃ G', RefAt w' G' rd k' ∧ Keep G w w' ∧ (∀ i, G' i → G i ∨ w.heap.size ≤ i)
theorem Rp.refl {w : World} {G : Nat → Prop} {d : Nat} {k : Dk} (h : RefAt w G d k) : Rp w G d k w := ⟨G, h, Keep.refl _ _, fun _ h => Or.inl h⟩
theorem Rp.ofBelow {w w' : World} {G : Nat → Prop} {d : Nat} {k : Dk} (h : RefAt w G d k) (hb : Below w.heap.size w w') : Rp w G d k w' := ⟨G, h.below hb, Keep.ofBelow hb, fun _ h => Or.inl h⟩
theorem Rp.next {w w1 w2 : World} {F F1 : Nat → Prop} {d : Nat} {k2 : Dk} (kp1 : Keep F w w1) (e1 : ∀ i, F1 i → F i ∨ w.heap.size ≤ i) (h : Rp w1 F1 d k2 w2) : Rp w F d k2 w2 := by
  obtain ⟨F2, h2, kp2, e2⟩ := h
  refine ⟨F2, h2, kp1.andThen kp2 (fun i hi hF => (e1 i hF).elim id (fun h => absurd h (by omega))), fun i hi => ?_⟩
  rcases e2 i hi with h | h
  · exact e1 i h
  · exact Or.inr (Nat.le_trans kp1.size h)

/-- The files' row: its place and its cells. -/
theorem row3 {w : World} {B : Nat} {v : Value} {l : Fls} {sl : Nm → Value} (h : w.ownsRow B 113 3 v l.length (ev sl l)) (hl : 0 < l.length) : ∃ g cap, v = .slice (some ⟨g, 0, none⟩) l.length cap ∧ l.length ≤ cap ∧ cap ≤ 9223372036854775807 ∧ (∀ i x, l[i]? = some x → w.cell? ⟨g, i * 3, none⟩ = some (.string x.1) ∧ w.cell? ⟨g, i * 3 + 1, none⟩ = some (sl x.1) ∧ w.cell? ⟨g, i * 3 + 2, none⟩ = some (.int .i64 (x.2.safe : Int))) := by
  rcases h.2 with ⟨_, h0⟩ | ⟨g, cap, cur, hv, _, hb, hn, hc, _, _⟩
  · omega
  · refine ⟨g, cap, hv, hn, by unfold maxLen at hc; omega, fun i x hx => ?_⟩
    subst hv
    obtain ⟨e1, e2, e3⟩ := ev_get sl l i x hx
    have c1 := h.cells (g := g) rfl _ _ e1
    have c2 := h.cells (g := g) rfl _ _ e2
    have c3 := h.cells (g := g) rfl _ _ e3
    rw [add_flat, Nat.zero_add] at c1 c2 c3
    exact ⟨c1, c2, c3⟩
theorem row_form {w : World} {B : Nat} {v : Value} {n : Nat} {xs : List Value} (h : w.ownsRow B 113 3 v n xs) : ∃ a c, v = .slice a n c ∧ n ≤ 9223372036854775807 := by
  rcases h.2 with ⟨rfl, rfl⟩ | ⟨g, cap, cur, rfl, _, _, h1, h2, _⟩
  · exact ⟨none, 0, rfl, by omega⟩
  · exact ⟨_, _, rfl, by unfold maxLen at h2; omega⟩

theorem Rd.ofRowE {w : World} {B : Nat} {v : Value} {n : Nat} {xs : List Int} (h : w.ownsRow B 5 1 v n (bc xs)) : ∃ a c, v = .slice a n c ∧ n ≤ 9223372036854775807 := by
  rcases h.2 with ⟨rfl, rfl⟩ | ⟨g, cap, cur, rfl, _, _, h1, h2, _⟩
  · exact ⟨none, 0, rfl, by omega⟩
  · exact ⟨_, _, rfl, by unfold maxLen at h2; omega⟩

/-- Where a name stands. -/
def ixL : Fls → Nm → Nat → Int
  | [], _, _ => -1
  | x :: r, s, i => if x.1 = s then (i : Int) else ixL r s (i + 1)
theorem ixL_none {l : Fls} {s : Nm} (h : look l s = none) (i : Nat) : ixL l s i = -1 := by
  induction l generalizing i with
  | nil => rfl
  | cons q r ih =>
    obtain ⟨n, g⟩ := q
    unfold look at h
    split at h
    · cases h
    · rename_i e
      unfold ixL
      rw [if_neg e]
      exact ih h _
theorem ixL_some {l : Fls} {s : Nm} {f : Fle} (h : look l s = some f) (i : Nat) : ∃ j : Nat, ixL l s i = ((i + j : Nat) : Int) ∧ l[j]? = some (s, f) ∧ j < l.length := by
  induction l generalizing i with
  | nil => cases h
  | cons q r ih =>
    obtain ⟨n, g⟩ := q
    unfold look at h
    split at h
    · rename_i e
      cases h
      subst e
      exact ⟨0, by unfold ixL; rw [if_pos rfl]; simp, rfl, by simp⟩
    · rename_i e
      obtain ⟨j, h1, h2, h3⟩ := ih h (i + 1)
      refine ⟨j + 1, ?_, h2, by simp; omega⟩
      unfold ixL
      rw [if_neg e, h1]
      congr 1
      omega
theorem ix_drop {l : Fls} {i : Nat} {x : Nm × Fle} (h : l[i]? = some x) (s : Nm) : ixL (l.drop i) s i = if x.1 = s then (i : Int) else ixL (l.drop (i + 1)) s (i + 1) := by
  have hi : i < l.length := (List.getElem?_eq_some_iff.1 h).1
  have hx : l[i] = x := (List.getElem?_eq_some_iff.1 h).2
  rw [List.drop_eq_getElem_cons hi, hx]
  rfl

theorem nm_neq {a b : Nm} (h : ¬ a = b) : (a.toList == b.toList) = false := by
  rw [beq_eq_false_iff_ne, ByteArray.toList_eq, ByteArray.toList_eq]
  exact fun e => h (nm_ext e)
theorem nm_eq (a : Nm) : (a.toList == a.toList) = true := by simp

set_option maxRecDepth 100000 in
set_option maxHeartbeats 2000000 in
theorem at_any (rd : Nat) (G : Nat → Prop) (k : Dk) (s : Nm) (w : World) (hR : RefAt w G rd k) :
    Calls Tryz.prog 57 #[.pointer (some ⟨rd, 0, none⟩), .string s] w fun e w' => e = .returned (.int .i64 (ixL k.fs s 0)) ∧ w' = w := by
  obtain ⟨⟨v, sl, hblk, hrow, _, _, _⟩, _, _, _⟩ := hR
  have q0 : w.cell? ⟨rd, 0, none⟩ = some v := by rw [cell_of_block hblk]; rfl
  obtain ⟨va, vc, rfl, hvl⟩ := row_form hrow
  obtain ⟨N, HN⟩ : ∃ N, Hid (k.fs.length = N) := ⟨_, rfl⟩
  rw [HN.out] at q0 hvl
  have HR : Hid (w.ownsRow 0 113 3 (.slice va k.fs.length vc) k.fs.length (ev sl k.fs)) := hrow
  obtain ⟨I, HI⟩ : ∃ I, Hid (ixL k.fs s 0 = I) := ⟨_, rfl⟩
  rw [HI.out]
  clear hrow hblk
  go_enter Tryz.func57, Tryz.ntmps57
  go_wp2_with fail
  go_loopw [5] (fun s5 wr => ∃ i : Nat, i ≤ N ∧ s5 = .int .i64 i ∧ Hid (ixL (k.fs.drop i) s i = I) ∧ wr = w) (fun s5 _ => N - (intOf s5).toNat)
  case atStart => exact ⟨0, by omega, rfl, HI.out, rfl⟩
  case round =>
    obtain ⟨i, hi, rfl, HX, hw⟩ := hrel
    replace hw := hw.symm
    subst hw
    by_cases hlt : i < N
    · have hcl : (i : Int) < (N : Int) := by omega
      have hpos : 0 < k.fs.length := by rw [HN.out]; omega
      obtain ⟨g, cap, e, hcap, hcm, hcs⟩ := row3 HR.out hpos
      cases e
      rw [HN.out] at hcap
      obtain ⟨x, hx⟩ : ∃ x, k.fs[i]? = some x := ⟨_, List.getElem?_eq_getElem (by rw [HN.out]; exact hlt)⟩
      have hc := (hcs i x hx).1
      have hX := HX.out
      rw [ix_drop hx] at hX
      clear hcs
      by_cases hxs : x.1 = s
      · rw [if_pos hxs] at hX
        subst hX
        rw [hxs] at hc
        clear hxs HX
        go_wp2
        go_ret
        exact ⟨rfl, rfl⟩
      · rw [if_neg hxs] at hX
        have hne := nm_neq hxs
        have HX2 : Hid (ixL (k.fs.drop (i + 1)) s (i + 1) = I) := hX
        clear hX HX
        go_wp2
        exact ⟨⟨i + 1, by omega, by go_num, HX2, trivial⟩, by simp [intOf]; omega⟩
    · obtain rfl : i = N := by omega
      have hcl : ¬ (i : Int) < (i : Int) := by omega
      have hX := HX.out
      rw [List.drop_eq_nil_of_le (by rw [HN.out]; exact Nat.le_refl _)] at hX
      have hI : I = -1 := hX.symm
      subst hI
      clear HX hX
      go_wp2
      go_ret
      exact ⟨rfl, rfl⟩


/-! ### right -/
theorem byte_list (s : Nm) (i : Nat) (h : i < s.size) : s.data.toList.drop i = s[i] :: s.data.toList.drop (i + 1) := get_list s i h
theorem okc_cases (c : UInt8) : (okc c = true ∧ ((97 ≤ c.toNat ∧ c.toNat ≤ 122) ∨ (48 ≤ c.toNat ∧ c.toNat ≤ 57) ∨ c.toNat = 46 ∨ c.toNat = 45)) ∨ (okc c = false ∧ (122 < c.toNat ∨ (57 < c.toNat ∧ c.toNat < 97) ∨ (c.toNat < 48 ∧ c.toNat ≠ 46 ∧ c.toNat ≠ 45))) := by
  unfold okc
  by_cases h : (97 ≤ c.toNat ∧ c.toNat ≤ 122) ∨ (48 ≤ c.toNat ∧ c.toNat ≤ 57) ∨ c.toNat = 46 ∨ c.toNat = 45
  · left
    refine ⟨?_, h⟩
    simp only [Bool.or_eq_true, Bool.and_eq_true, decide_eq_true_eq]
    omega
  · right
    refine ⟨?_, by omega⟩
    rw [Bool.eq_false_iff]
    simp only [ne_eq, Bool.or_eq_true, Bool.and_eq_true, decide_eq_true_eq]
    omega

set_option maxRecDepth 100000 in
set_option maxHeartbeats 4000000 in
theorem right_any (s : Nm) (hs : s.size ≤ 9223372036854775807) (w : World) : Calls Tryz.prog 93 #[.string s] w fun e w' => e = .returned (.bool (isNm s)) ∧ w' = w := by
  obtain ⟨N, HN⟩ : ∃ N, Hid (s.size = N) := ⟨_, rfl⟩
  have hsN : s.size = N := HN.out
  obtain ⟨R, HRr⟩ : ∃ R, Hid (isNm s = R) := ⟨_, rfl⟩
  rw [HRr.out]
  go_enter Tryz.func93, Tryz.ntmps93
  go_wp2_with fail
  go_loopw [3, 4] (fun s3 _ wr => ∃ i : Nat, i ≤ N ∧ s3 = .int .i64 i ∧ Hid (s.data.toList.all okc = (s.data.toList.drop i).all okc) ∧ wr = w) (fun s3 _ _ => N - (intOf s3).toNat)
  case atStart => exact ⟨0, by omega, rfl, rfl, rfl⟩
  case round =>
    obtain ⟨i, hi, rfl, HX, hw⟩ := hrel
    replace hw := hw.symm
    subst hw
    by_cases hlt : i < N
    · have hcl : (i : Int) < (N : Int) := by omega
      have his : i < s.size := by omega
      have hX := HX.out
      rw [get_list s i his, List.all_cons] at hX
      have hok := okc_cases s[i]
      have hix : (Instr.index 9 (.string s) (.int .i64 (i : Int))).run Tryz.prog w = .ok (.int .u8 (s[i].toNat : Int)) w := by
        rw [run_index_string w 9 s .i64 (i : Int) Tryz.underlying9, dif_pos ⟨by omega, by omega⟩]
        rfl
      obtain ⟨c, hc⟩ : ∃ c, s[i].toNat = c := ⟨_, rfl⟩
      rw [hc] at hok hix
      clear hc HX
      rcases hok with ⟨ho, h | h | h | h⟩ | ⟨ho, h | h | h⟩
      · rw [ho] at hX
        have q0 : 97 ≤ (c : Int) := by omega
        have q1 : (c : Int) ≤ 122 := by omega
        rw [Bool.true_and] at hX
        have HX2 : Hid (s.data.toList.all okc = (s.data.toList.drop (i + 1)).all okc) := hX
        clear h ho hX
        go_wp2
        exact ⟨⟨i + 1, by omega, by go_num, HX2, trivial⟩, by simp [intOf]; omega⟩
      · rw [ho] at hX
        have q0 : ¬ 97 ≤ (c : Int) := by omega
        have q1 : 48 ≤ (c : Int) := by omega
        have q2 : (c : Int) ≤ 57 := by omega
        rw [Bool.true_and] at hX
        have HX2 : Hid (s.data.toList.all okc = (s.data.toList.drop (i + 1)).all okc) := hX
        clear h ho hX
        go_wp2
        exact ⟨⟨i + 1, by omega, by go_num, HX2, trivial⟩, by simp [intOf]; omega⟩
      · rw [ho] at hX
        have q0 : ¬ 97 ≤ (c : Int) := by omega
        have q1 : ¬ 48 ≤ (c : Int) := by omega
        have q2 : ((c : Int) == 46) = true := by simp; omega
        rw [Bool.true_and] at hX
        have HX2 : Hid (s.data.toList.all okc = (s.data.toList.drop (i + 1)).all okc) := hX
        clear h ho hX
        go_wp2
        exact ⟨⟨i + 1, by omega, by go_num, HX2, trivial⟩, by simp [intOf]; omega⟩
      · rw [ho] at hX
        have q0 : ¬ 97 ≤ (c : Int) := by omega
        have q1 : ¬ 48 ≤ (c : Int) := by omega
        have q2 : ((c : Int) == 46) = false := by simp; omega
        have q3 : ((c : Int) == 45) = true := by simp; omega
        rw [Bool.true_and] at hX
        have HX2 : Hid (s.data.toList.all okc = (s.data.toList.drop (i + 1)).all okc) := hX
        clear h ho hX
        go_wp2
        exact ⟨⟨i + 1, by omega, by go_num, HX2, trivial⟩, by simp [intOf]; omega⟩
      · rw [ho] at hX
        have q0 : 97 ≤ (c : Int) := by omega
        have q1 : ¬ (c : Int) ≤ 122 := by omega
        have q2 : 48 ≤ (c : Int) := by omega
        have q3 : ¬ (c : Int) ≤ 57 := by omega
        have q4 : ((c : Int) == 46) = false := by simp; omega
        have q5 : ((c : Int) == 45) = false := by simp; omega
        have hnm : R = false := by rw [← HRr.out]; unfold isNm; rw [hX]; simp
        subst hnm
        clear h ho hX
        go_wp2
        go_ret
        exact ⟨rfl, rfl⟩
      · rw [ho] at hX
        have q0 : ¬ 97 ≤ (c : Int) := by omega
        have q1 : 48 ≤ (c : Int) := by omega
        have q2 : ¬ (c : Int) ≤ 57 := by omega
        have q3 : ((c : Int) == 46) = false := by simp; omega
        have q4 : ((c : Int) == 45) = false := by simp; omega
        have hnm : R = false := by rw [← HRr.out]; unfold isNm; rw [hX]; simp
        subst hnm
        clear h ho hX
        go_wp2
        go_ret
        exact ⟨rfl, rfl⟩
      · rw [ho] at hX
        have q0 : ¬ 97 ≤ (c : Int) := by omega
        have q1 : ¬ 48 ≤ (c : Int) := by omega
        have q2 : ((c : Int) == 46) = false := by simp; omega
        have q3 : ((c : Int) == 45) = false := by simp; omega
        have hnm : R = false := by rw [← HRr.out]; unfold isNm; rw [hX]; simp
        subst hnm
        clear h ho hX
        go_wp2
        go_ret
        exact ⟨rfl, rfl⟩
    · obtain rfl : i = N := by omega
      have hcl : ¬ (i : Int) < (i : Int) := by omega
      have hX := HX.out
      rw [List.drop_eq_nil_of_le (by rw [len_bytes]; omega)] at hX
      have hnm : R = (decide (1 ≤ i) && decide (i ≤ 64)) := by rw [← HRr.out]; unfold isNm; rw [hX, HN.out]; simp
      clear HX hX
      by_cases h1 : 1 ≤ i
      · have h1' : (1 : Int) ≤ (i : Int) := by omega
        rw [decide_eq_true h1] at hnm
        by_cases h2 : i ≤ 64
        · have h2' : (i : Int) ≤ 64 := by omega
          rw [decide_eq_true h2] at hnm
          subst hnm
          clear h1 h2
          go_wp2
          go_ret
          exact ⟨rfl, rfl⟩
        · have h2' : ¬ (i : Int) ≤ 64 := by omega
          rw [decide_eq_false h2] at hnm
          subst hnm
          clear h1 h2
          go_wp2
          go_ret
          exact ⟨rfl, rfl⟩
      · have h1' : ¬ (1 : Int) ≤ (i : Int) := by omega
        rw [decide_eq_false h1] at hnm
        subst hnm
        clear h1
        go_wp2
        go_ret
        exact ⟨rfl, rfl⟩

/-! ### power -/
theorem power_any (rd : Nat) (G : Nat → Prop) (k : Dk) (hs : k.steps < 1000000) (w : World) (hR : RefAt w G rd k) :
    Calls Tryz.prog 56 #[.pointer (some ⟨rd, 0, none⟩)] w fun e w' => e = .returned (.int .i64 ((passK k).1 : Int)) ∧ Rp w G rd (passK k).2 w' := by
  have hg2 := good_pass hR.good
  have hfs := pass_fs k
  obtain ⟨⟨v, sl, hblk, hrow, hvG, hlies, hslv⟩, hGrd, hlt, hg⟩ := hR
  have fin : ∀ w' k1, k1.fs = k.fs → k1.Good → w'.heap[rd]? = some (.cells (rcsR k1 v) 93 (0, 0)) → Keep (fun i => i = rd) w w' → Rp w G rd k1 w' := fun w' k1 e1 g1 hb1 hk1 => by
    refine ⟨G, ⟨⟨v, sl, hb1, ?_, hvG, ?_, hslv⟩, hGrd, fun i hi => Nat.lt_of_lt_of_le (hlt i hi) hk1.size, g1⟩, hk1.mono (fun i e => by subst e; exact hGrd), fun _ h => Or.inl h⟩
    · rw [e1]
      refine own_keep hrow hk1 (fun g hg e => ?_)
      obtain ⟨cur, h2⟩ := own_blk hrow hg
      subst e
      rw [hblk] at h2
      cases h2
    · rw [e1]
      intro x hx
      refine (hlies x hx).keep hk1 (fun g hg e => ?_) (fun _ h => h)
      obtain ⟨cur, h2⟩ := own_blk (hlies x hx).1 hg
      subst e
      rw [hblk] at h2
      cases h2
  have q2 : w.cell? ⟨rd, 2, none⟩ = some (.int .i64 (k.steps : Int)) := by rw [cell_of_block hblk]; rfl
  have q3 : w.cell? ⟨rd, 3, none⟩ = some (.bool k.off) := by rw [cell_of_block hblk]; rfl
  have q4 : w.cell? ⟨rd, 4, none⟩ = some (.int .i64 (leftK k)) := by rw [cell_of_block hblk]; rfl
  have z2 := unfrozen_of_block hblk 2
  have z3 := unfrozen_of_block hblk 3
  have z4 := unfrozen_of_block hblk 4
  have hws : wrap64 ((k.steps : Int) + 1) = (k.steps : Int) + 1 := by unfold wrap64; omega
  clear hrow hlies hslv
  cases hf : k.fu with
  | none =>
    have e : passK k = (0, { k with steps := k.steps + 1 }) := by unfold passK; rw [hf]
    rw [e] at hg2 hfs ⊢
    have hl : leftK k = -1 := by unfold leftK; rw [hf]
    rw [hl] at q4
    have HFu : Hid (k.fu = none) := hf
    clear hf hl hg hfs
    have hb' := block_setCell (i := 2) hblk (.int .i64 ((k.steps : Int) + 1))
    clear hblk
    go_enter Tryz.func56, Tryz.ntmps56
    go_wp2
    go_ret
    refine ⟨rfl, fin _ _ rfl hg2 ?_ ((Keep.refl (fun i => i = rd) w).setCell (p := ⟨rd, 2, none⟩) rfl _)⟩
    rw [hb']
    simp [rcsR, leftK, HFu.out]
  | some n =>
    have hn := hg.fu n hf
    cases n with
    | zero =>
      have e : passK k = (13, { k with off := true }) := by unfold passK; rw [hf]
      rw [e] at hg2 hfs ⊢
      have hl : leftK k = 0 := by unfold leftK; rw [hf]; rfl
      rw [hl] at q4
      have HFu : Hid (k.fu = some 0) := hf
      clear hf hl hg hfs
      have hb' := block_setCell (i := 3) hblk (.bool true)
      clear hblk
      go_enter Tryz.func56, Tryz.ntmps56
      go_wp2
      go_ret
      refine ⟨rfl, fin _ _ rfl hg2 ?_ ((Keep.refl (fun i => i = rd) w).setCell (p := ⟨rd, 3, none⟩) rfl _)⟩
      rw [hb']
      simp [rcsR, leftK, HFu.out]
    | succ n =>
      have e : passK k = (0, { k with steps := k.steps + 1, fu := some n }) := by unfold passK; rw [hf]
      rw [e] at hg2 hfs ⊢
      have hl : leftK k = (n : Int) + 1 := by unfold leftK; rw [hf]; rfl
      rw [hl] at q4
      clear hf hl hg hfs
      have hc0 : ((n : Int) + 1 == 0) = false := by simp; omega
      have hc1 : decide ((0 : Int) < (n : Int) + 1) = true := by simp only [decide_eq_true_eq]; omega
      have hc2 : (0 : Int) < (n : Int) + 1 := by omega
      have hwl : wrap64 ((n : Int) + 1 - 1) = (n : Int) := by unfold wrap64; omega
      have hb1 := block_setCell (i := 4) hblk (.int .i64 (n : Int))
      have hb2 := block_setCell (i := 2) hb1 (.int .i64 ((k.steps : Int) + 1))
      have p2 : (w.setCell ⟨rd, 4, none⟩ (.int .i64 (n : Int))).cell? ⟨rd, 2, none⟩ = some (.int .i64 (k.steps : Int)) := by rw [cell_of_block hb1]; rfl
      have y2 := unfrozen_of_block hb1 2
      clear hblk hb1
      go_enter Tryz.func56, Tryz.ntmps56
      go_wp2
      go_ret
      refine ⟨rfl, fin _ _ rfl hg2 ?_ (((Keep.refl (fun i => i = rd) w).setCell (p := ⟨rd, 4, none⟩) rfl _).setCell (p := ⟨rd, 2, none⟩) rfl _)⟩
      rw [hb2]
      simp [rcsR, leftK]

set_option maxRecDepth 100000 in
set_option maxHeartbeats 2000000 in
theorem refUsed_any (rd : Nat) (G : Nat → Prop) (k : Dk) (w : World) (hR : RefAt w G rd k) :
    Calls Tryz.prog 44 #[.pointer (some ⟨rd, 0, none⟩)] w fun e w' => e = .returned (.int .i64 (used k.fs : Int)) ∧ w' = w := by
  have hroom := hR.good.room
  have husd := hR.good.used
  obtain ⟨⟨v, sl, hblk, hrow, _, hlies, _⟩, _, _, _⟩ := hR
  have q0 : w.cell? ⟨rd, 0, none⟩ = some v := by rw [cell_of_block hblk]; rfl
  obtain ⟨va, vc, rfl, hvl⟩ := row_form hrow
  obtain ⟨N, HN⟩ : ∃ N, Hid (k.fs.length = N) := ⟨_, rfl⟩
  rw [HN.out] at q0 hvl
  have HR : Hid (w.ownsRow 0 113 3 (.slice va k.fs.length vc) k.fs.length (ev sl k.fs)) := hrow
  have HLi : Hid (∀ x ∈ k.fs, Lies w G (sl x.1) x.2) := hlies
  obtain ⟨U, HU⟩ : ∃ U, Hid (used k.fs = U) := ⟨_, rfl⟩
  rw [HU.out] at husd ⊢
  clear hrow hblk hlies
  go_enter Tryz.func44, Tryz.ntmps44
  go_wp2_with fail
  go_loopw [3, 4] (fun s3 s4 wr => ∃ i u : Nat, i ≤ N ∧ s4 = .int .i64 i ∧ s3 = .int .i64 u ∧ Hid (u + used (k.fs.drop i) = U) ∧ wr = w) (fun _ s4 _ => N - (intOf s4).toNat)
  case atStart => exact ⟨0, 0, by omega, rfl, rfl, by show 0 + used (k.fs.drop 0) = U; rw [Nat.zero_add, List.drop_zero]; exact HU.out, rfl⟩
  case round =>
    obtain ⟨i, u, hi, rfl, rfl, HX, hw⟩ := hrel
    replace hw := hw.symm
    subst hw
    by_cases hlt : i < N
    · have hcl : (i : Int) < (N : Int) := by omega
      have hpos : 0 < k.fs.length := by rw [HN.out]; omega
      obtain ⟨g, cap, e, hcap, hcm, hcs⟩ := row3 HR.out hpos
      cases e
      rw [HN.out] at hcap
      have hil : i < k.fs.length := by rw [HN.out]; exact hlt
      obtain ⟨x, hx⟩ : ∃ x, k.fs[i]? = some x := ⟨_, List.getElem?_eq_getElem hil⟩
      have hc := (hcs i x hx).2.1
      obtain ⟨aj, cj, hv⟩ : ∃ a c, sl x.1 = .slice a x.2.b.length c := by
        obtain ⟨a, c, hv, _⟩ := Rd.ofRowE (HLi.out x (List.mem_of_getElem? hx)).1
        exact ⟨a, c, hv⟩
      rw [hv] at hc
      have hX := HX.out
      rw [List.drop_eq_getElem_cons hil, (List.getElem?_eq_some_iff.1 hx).2] at hX
      obtain ⟨lx, hlx⟩ : ∃ lx, x.2.b.length = lx := ⟨_, rfl⟩
      have hX2 : u + (lx + used (k.fs.drop (i + 1))) = U := by rw [← hlx]; exact hX
      rw [hlx] at hc
      have hlen1 := fun w => len_slice aj lx cj 29 3 w Tryz.underlying29
      have hw2 : wrap64 ((u : Int) + (lx : Int)) = (u : Int) + (lx : Int) := by unfold wrap64; omega
      have HX2 : Hid (u + lx + used (k.fs.drop (i + 1)) = U) := by show _ = _; omega
      clear hcs hX HX hv hlx hX2
      go_wp2
      exact ⟨⟨i + 1, u + lx, by omega, by go_num, by go_num, HX2, trivial⟩, by simp [intOf]; omega⟩
    · obtain rfl : i = N := by omega
      have hcl : ¬ (i : Int) < (i : Int) := by omega
      have hX := HX.out
      rw [List.drop_eq_nil_of_le (by rw [HN.out]; exact Nat.le_refl _)] at hX
      have hI : U = u := by have : u + 0 = U := hX; omega
      subst hI
      clear HX hX
      go_wp2
      go_ret
      exact ⟨rfl, rfl⟩

end Go.Proofs.YtikkieaokfailaaGreatDoor
