/- Texts of one seat, one behind the other: LoA, LoP. -/
import Derived.Test.YtikkieaokfailaaGreatDoorM15
import Derived.Test.YtikkieaokfailaaGreatDoorM14
namespace Go.Proofs.YtikkieaokfailaaGreatDoor
open Go.RowKit Go.Joins
structure Lt where
 g : Nat
 n : Nat
 cap : Nat
 ys : List Int
def Lt.v (t : Lt) : Value := .slice (some ⟨t.g, 0, none⟩) t.n t.cap
def LBt (Fp : Nat → Prop) (pn pk m : Nat) (T : List Lt) (W : World) : Prop :=
 ∃ (lv mv : Value) (ls ms : List Value) (xs : List (List Int)) (fv wv : Value) (fs ws : List Value) (ys : List (List Int)) (N : Nat),
  LoanAt W pn lv mv ls ms xs ∧ BookAt W pk fv wv fs ws ys N ∧ (∀ j, LF pn lv mv ls ms j → ¬ BF pk fv wv fs ws j) ∧ (∀ j, LF pn lv mv ls ms j → Fp j) ∧ (∀ j, BF pk fv wv fs ws j → Fp j) ∧ ls.length ≤ m ∧ (∀ x ∈ xs, x.length ≤ 3000) ∧ ∀ t ∈ T, ∃ j : Nat, ls[j]? = some (Value.slice (some ⟨t.g, 0, none⟩) (t.n + 5) t.cap) ∧ xs[j]? = some (t.ys ++ marks5) ∧ t.ys.length = t.n
section
variable {Fp Fq S : Nat → Prop} {pn pk m : Nat} {T : List Lt} {W W' : World}
theorem LBt.keep (h : LBt Fp pn pk m T W) (k : Keep S W W') (hS : ∀ j, Fp j → ¬ S j) : LBt Fp pn pk m T W' := by
 obtain ⟨lv, mv, ls, ms, xs, fv, wv, fs, ws, ys, N, h1, h2, h3, h4, h5, h6, h7, h8⟩ := h
 exact ⟨lv, mv, ls, ms, xs, fv, wv, fs, ws, ys, N, h1.keep k (fun j q => hS j (h4 j q)), h2.keep k (fun j q => hS j (h5 j q)), h3, h4, h5, h6, h7, h8⟩
theorem LBt.q (h : LBt Fp pn pk m T W) : LBq Fp pn pk m W := by
 obtain ⟨lv, mv, ls, ms, xs, fv, wv, fs, ws, ys, N, h1, h2, h3, h4, h5, h6, h7, h8⟩ := h
 exact ⟨lv, mv, ls, ms, xs, fv, wv, fs, ws, ys, N, h1, h2, h3, h4, h5, h6, h7⟩
theorem LBq.t (h : LBq Fp pn pk m W) : LBt Fp pn pk m [] W := by
 obtain ⟨lv, mv, ls, ms, xs, fv, wv, fs, ws, ys, N, h1, h2, h3, h4, h5, h6, h7⟩ := h
 exact ⟨lv, mv, ls, ms, xs, fv, wv, fs, ws, ys, N, h1, h2, h3, h4, h5, h6, h7, fun t ht => by cases ht⟩
theorem LBt.rd (h : LBt Fp pn pk m T W) {t : Lt} (ht : t ∈ T) : Rd W (some ⟨t.g, 0, none⟩) t.n t.cap t.ys ∧ Fp t.g := by
 obtain ⟨lv, mv, ls, ms, xs, fv, wv, fs, ws, ys, N, h1, h2, h3, h4, h5, h6, h7, h8⟩ := h
 obtain ⟨j, e1, e2, e3⟩ := h8 t ht
 have o := h1.two.f.ows.get e1
 rw [show xs.getD j [] = t.ys ++ marks5 by simp [List.getD, e2]] at o
 obtain ⟨a, c, e, r⟩ := o.rd
 injection e with e4 e5 e6
 subst e4 e6
 refine ⟨?_, h4 _ (Or.inr (Or.inl (Or.inr (mem_of e1 rfl))))⟩
 have r2 := r.takeK (k := t.n) (by rw [List.length_append]; omega)
 rwa [List.take_append_of_le_length (by omega), List.take_of_length_le (by omega)] at r2
theorem lendT (h : LBt Fp pn pk m T W) (hm : m ≤ 1000) (a : Option Addr) (n c : Nat) (ys : List Int) (hR : Rd W a n c ys) (hn : n ≤ 2000) :
  Calls Tryz.prog 31 #[.pointer (some ⟨pn, 0, none⟩), .slice a n c] W fun e W' => ∃ g cap, e = .returned (.slice (some ⟨g, 0, none⟩) n cap) ∧ LBt (fun j => Fp j ∨ (W.heap.size ≤ j ∧ j < W'.heap.size)) pn pk (m + 1) (T ++ [⟨g, n, cap, ys⟩]) W' ∧ Keep Fp W W' := by
 obtain ⟨lv, mv, ls, ms, xs, fv, wv, fs, ws, zs, N, h1, h2, h3, h4, h5, h6, h7, h8⟩ := h
 have hml : ms.length = ls.length := h1.two.g.ows.len.trans h1.two.f.ows.len.symm
 have hxl : ls.length = xs.length := h1.two.f.ows.len
 have hyl := hR.len
 refine (loanBytes_any pn lv mv ls ms xs a n c ys W h1 hR (by omega) (by omega) (by omega)).mono ?_
 rintro e W' ⟨g, cap, lv', mv', ml, rfl, L', hr', hg, hf, hk⟩
 refine ⟨g, cap, rfl, ⟨_, _, _, _, _, _, _, _, _, _, _, L', h2.keep hk (fun j e s => h3 j s e), fun j e s => ?_, fun j e => ?_, fun j e => .inl (h5 j e), by rw [List.length_append]; simp; omega, fun x hx => ?_, fun t ht => ?_⟩, hk.mono h4⟩
 ·rcases hf j e with e | e
  ·exact h3 j e s
  ·have := h2.lt j s; omega
 ·rcases hf j e with e' | e'
  ·exact .inl (h4 j e')
  ·exact .inr ⟨e', L'.lt j e⟩
 ·rcases List.mem_append.1 hx with hx | hx
  ·exact h7 x hx
  ·simp at hx
   rw [hx, List.length_append]
   have : marks5.length = 5 := rfl
   omega
 ·rcases List.mem_append.1 ht with ht | ht
  ·obtain ⟨j, e1, e2, e3⟩ := h8 t ht
   have hj : j < ls.length := (List.getElem?_eq_some_iff.1 e1).1
   exact ⟨j, by rw [List.getElem?_append_left hj]; exact e1, by rw [List.getElem?_append_left (by omega)]; exact e2, e3⟩
  ·obtain rfl : t = ⟨g, n, cap, ys⟩ := by simpa using ht
   exact ⟨ls.length, by simp, by rw [hxl]; simp, hyl⟩
end
structure Sx (B : Nat) (w : World) (sb d rd pn m : Nat) (T : List Lt) (Z : Nat → Prop) (pl pr : Value) (l : Lg) (k : Dk) (l' : Lg) (k' : Dk) : Prop where
 ex : ∃ (P R Q : Nat → Prop), w.heap[sb]? = some (.cells #[.pointer (some ⟨d, 0, none⟩), pl, .pointer (some ⟨rd, 0, none⟩), pr] 51 (0, 0)) ∧ PH w P d pl (some l) k ∧ RH w R rd pr (some l') k' ∧ LBt Q pn (pn + 1) m T w ∧ (∀ i, P i → ¬ R i ∧ ¬ Q i) ∧ (∀ i, R i → ¬ Q i) ∧ (¬ P sb ∧ ¬ R sb ∧ ¬ Q sb ∧ ¬ Z sb) ∧ (∀ i, Z i → ¬ P i ∧ ¬ R i ∧ ¬ Q i ∧ i < w.heap.size) ∧ (∀ i, P i ∨ R i ∨ Q i → B ≤ i ∧ i < w.heap.size)
 sn : B ≤ sb
 pw : Pw w
 pB : 0 < B
def Sk (B : Nat) (Z : Nat → Prop) (i : Nat) : Prop := B ≤ i ∧ ¬ Z i
section
variable {B : Nat} {w w' : World} {sb d rd pn m : Nat} {T : List Lt} {Z S : Nat → Prop} {pl pr : Value} {l l' : Lg} {k k' : Dk}
theorem Sx.sz (h : Sx B w sb d rd pn m T Z pl pr l k l' k') : sb < w.heap.size ∧ B ≤ w.heap.size := by
 obtain ⟨P, R, Q, h1, _⟩ := h.ex
 have := (Array.getElem?_eq_some_iff.1 h1).1
 have := h.sn
 exact ⟨by omega, by omega⟩
theorem Sx.blk (h : Sx B w sb d rd pn m T Z pl pr l k l' k') : w.heap[sb]? = some (.cells #[.pointer (some ⟨d, 0, none⟩), pl, .pointer (some ⟨rd, 0, none⟩), pr] 51 (0, 0)) := by
 obtain ⟨P, R, Q, h1, _⟩ := h.ex
 exact h1
theorem Sx.zed {Z' : Nat → Prop} (h : Sx B w sb d rd pn m T Z pl pr l k l' k') (hz : ∀ i, Z' i → Z i) : Sx B w sb d rd pn m T Z' pl pr l k l' k' := by
 obtain ⟨P, R, Q, h1, h2, h3, h4, h5, h6, ⟨x1, x2, x3, x4⟩, h8, h9⟩ := h.ex
 exact ⟨⟨P, R, Q, h1, h2, h3, h4, h5, h6, ⟨x1, x2, x3, fun e => x4 (hz _ e)⟩, fun i hi => h8 i (hz i hi), h9⟩, h.sn, h.pw, h.pB⟩
theorem Sx.more (h : Sx B w sb d rd pn m T Z pl pr l k l' k') (hk : Keep S w w') (hS : ∀ i, S i → Z i ∧ B ≤ i) : Sx B w' sb d rd pn m T (fun i => Z i ∨ (w.heap.size ≤ i ∧ i < w'.heap.size)) pl pr l k l' k' := by
 have hsz := h.sz.1
 have hg : ¬ S 0 := fun e => by have := (hS _ e).2; have := h.pB; omega
 obtain ⟨P, R, Q, h1, h2, h3, h4, h5, h6, ⟨x1, x2, x3, x4⟩, h8, h9⟩ := h.ex
 have hs := hk.size
 refine ⟨⟨P, R, Q, box_keep h1 hk (fun e => x4 (hS _ e).1), h2.keep hk (fun i hi e => (h8 i (hS i e).1).1 hi) hg, h3.keep hk (fun i hi e => (h8 i (hS i e).1).2.1 hi), h4.keep hk (fun i hi e => (h8 i (hS i e).1).2.2.1 hi), h5, h6, ⟨x1, x2, x3, fun e => ?_⟩, fun i hi => ?_, fun i hi => ⟨(h9 i hi).1, Nat.lt_of_lt_of_le (h9 i hi).2 hs⟩⟩, h.sn, h.pw.keep hk hg, h.pB⟩
 ·rcases e with e | e
  ·exact x4 e
  ·omega
 ·rcases hi with e | e
  ·obtain ⟨a1, a2, a3, a4⟩ := h8 i e
   exact ⟨a1, a2, a3, by omega⟩
  ·exact ⟨fun q => by have := (h9 i (Or.inl q)).2; omega, fun q => by have := (h9 i (Or.inr (Or.inl q))).2; omega, fun q => by have := (h9 i (Or.inr (Or.inr q))).2; omega, e.2⟩
theorem Sx.keep (h : Sx B w sb d rd pn m T Z pl pr l k l' k') (hk : Keep S w w') (hS : ∀ i, S i → Z i ∧ B ≤ i) : Sx B w' sb d rd pn m T Z pl pr l k l' k' := (h.more hk hS).zed fun _ e => Or.inl e
theorem Sx.below (h : Sx B w sb d rd pn m T Z pl pr l k l' k') (hb : Below w.heap.size w w') : Sx B w' sb d rd pn m T Z pl pr l k l' k' := h.keep (S := fun _ => False) (Keep.ofBelow hb) (fun _ e => e.elim)
theorem Sx.tr (h : Sx B w sb d rd pn m T Z pl pr l k l' k') {t : Lt} (ht : t ∈ T) : Rd w (some ⟨t.g, 0, none⟩) t.n t.cap t.ys := by
 obtain ⟨P, R, Q, _, _, _, h4, _⟩ := h.ex
 exact (h4.rd ht).1
theorem Sx.up (h : Sx B w sb d rd pn m T Z pl pr l k l' k') {m' : Nat} (hm : m ≤ m') : Sx B w sb d rd pn m' T Z pl pr l k l' k' := by
 obtain ⟨P, R, Q, h1, h2, h3, ⟨lv, mv, ls, ms, xs, fv, wv, fs, ws, ys, N, b1, b2, b3, b4, b5, b6, b7, b8⟩, h5⟩ := h.ex
 exact ⟨⟨P, R, Q, h1, h2, h3, ⟨lv, mv, ls, ms, xs, fv, wv, fs, ws, ys, N, b1, b2, b3, b4, b5, Nat.le_trans b6 hm, b7, b8⟩, h5⟩, h.sn, h.pw, h.pB⟩
theorem Sx.zlt (h : Sx B w sb d rd pn m T Z pl pr l k l' k') {i : Nat} (hi : Z i) : i < w.heap.size := by
 obtain ⟨P, R, Q, _, _, _, _, _, _, _, h8, _⟩ := h.ex
 exact (h8 i hi).2.2.2
theorem Sx.tlt (h : Sx B w sb d rd pn m T Z pl pr l k l' k') {t : Lt} (ht : t ∈ T) : t.g < w.heap.size := by
 obtain ⟨P, R, Q, _, _, _, h4, _, _, _, _, h9⟩ := h.ex
 exact (h9 _ (Or.inr (Or.inr (h4.rd ht).2))).2
theorem Sx.hr (h : Sx B w sb d rd pn m T Z pl pr l k l' k') : Rise k.fs := by
 obtain ⟨P, R, Q, _, ⟨F, _, hD, _⟩, _⟩ := h.ex
 exact hD.good.rise
theorem Sx.log (h : Sx B w sb d rd pn m T Z pl pr l k l' k') : ∃ F H lb, pl = .pointer (some ⟨lb, 0, none⟩) ∧ LogAt w F H lb d l k ∧ (∀ i, F i ∨ H i ∨ i = lb → B ≤ i ∧ i < w.heap.size ∧ ¬ Z i ∧ ∀ t ∈ T, t.g ≠ i) ∧ ∀ l2 k2 w', Lgp w F H lb d l2 k2 w' → Sx B w' sb d rd pn m T Z pl pr l2 k2 l' k' ∧ Keep (Sk B Z) w w' := by
 have hsz := h.sz.1
 obtain ⟨P, R, Q, h1, h2, h3, h4, h5, h6, ⟨x1, x2, x3, x4⟩, h8, h9⟩ := h.ex
 have hsn := h.sn
 have hpB := h.pB
 obtain ⟨F, H, lb, rfl, y1, y2, y3⟩ := h2.log (by omega)
 refine ⟨F, H, lb, rfl, y2, fun i hi => ?_, fun l2 k2 w' hp => ?_⟩
 ·have hPi := y1 i hi
  have a := h9 i (Or.inl hPi)
  exact ⟨a.1, a.2, fun z => (h8 i z).1 hPi, fun t ht e => (h5 i hPi).2 (e ▸ (h4.rd ht).2)⟩
 ·obtain ⟨P', a1, a2, a3, a4⟩ := y3 l2 k2 w' hp
  have hs := a2.size
  have hg : ¬ P 0 := fun e => by have := (h9 _ (Or.inl e)).1; omega
  have hn : ∀ i, i < w.heap.size → ¬ P i → ¬ P' i := fun i q1 q2 q3 => (a3 i q3).elim q2 (fun q4 => by omega)
  refine ⟨⟨⟨P', R, Q, box_keep h1 a2 x1, a1, h3.keep a2 (fun i hi e => (h5 i e).1 hi), h4.keep a2 (fun i hi e => (h5 i e).2 hi), fun i hi => ?_, h6, ⟨hn _ hsz x1, x2, x3, x4⟩, fun i hi => ?_, fun i hi => ?_⟩, hsn, h.pw.keep a2 hg, hpB⟩, a2.mono fun i hi => ⟨(h9 i (Or.inl hi)).1, fun z => (h8 i z).1 hi⟩⟩
  ·rcases a3 i hi with e | e
   ·exact h5 i e
   ·exact ⟨fun q => by have := (h9 i (Or.inr (Or.inl q))).2; omega, fun q => by have := (h9 i (Or.inr (Or.inr q))).2; omega⟩
  ·obtain ⟨q1, q2, q3, q4⟩ := h8 i hi
   exact ⟨hn i q4 q1, q2, q3, by omega⟩
  ·rcases hi with hi | hi
   ·refine ⟨?_, a4 i hi⟩
    rcases a3 i hi with e | e
    ·exact (h9 i (Or.inl e)).1
    ·omega
   ·have := h9 i (Or.inr hi)
    omega
theorem Sx.rlog (h : Sx B w sb d rd pn m T Z pl pr l k l' k') : ∃ G H rl, pr = .pointer (some ⟨rl, 0, none⟩) ∧ RLogAt w G H rl rd l' k' ∧ (∀ i, G i ∨ H i ∨ i = rl → B ≤ i ∧ i < w.heap.size ∧ ¬ Z i ∧ ∀ t ∈ T, t.g ≠ i) ∧ ∀ l2 k2 w', Rgp w G H rl rd l2 k2 w' → Sx B w' sb d rd pn m T Z pl pr l k l2 k2 ∧ Keep (Sk B Z) w w' := by
 have hsz := h.sz.1
 obtain ⟨P, R, Q, h1, h2, h3, h4, h5, h6, ⟨x1, x2, x3, x4⟩, h8, h9⟩ := h.ex
 have hsn := h.sn
 have hpB := h.pB
 obtain ⟨G, H, rl, rfl, y1, y2, y3⟩ := h3.log
 refine ⟨G, H, rl, rfl, y2, fun i hi => ?_, fun l2 k2 w' hp => ?_⟩
 ·have hRi := y1 i hi
  have a := h9 i (Or.inr (Or.inl hRi))
  exact ⟨a.1, a.2, fun z => (h8 i z).2.1 hRi, fun t ht e => h6 i hRi (e ▸ (h4.rd ht).2)⟩
 ·obtain ⟨R', a1, a2, a3, a4⟩ := y3 l2 k2 w' hp
  have hs := a2.size
  have hg : ¬ R 0 := fun e => by have := (h9 _ (Or.inr (Or.inl e))).1; omega
  have hn : ∀ i, i < w.heap.size → ¬ R i → ¬ R' i := fun i q1 q2 q3 => (a3 i q3).elim q2 (fun q4 => by omega)
  refine ⟨⟨⟨P, R', Q, box_keep h1 a2 x2, h2.keep a2 (fun i hi e => (h5 i hi).1 e) hg, a1, h4.keep a2 (fun i hi e => h6 i e hi), fun i hi => ⟨hn i (h9 i (Or.inl hi)).2 (h5 i hi).1, (h5 i hi).2⟩, fun i hi => ?_, ⟨x1, hn _ hsz x2, x3, x4⟩, fun i hi => ?_, fun i hi => ?_⟩, hsn, h.pw.keep a2 hg, hpB⟩, a2.mono fun i hi => ⟨(h9 i (Or.inr (Or.inl hi))).1, fun z => (h8 i z).2.1 hi⟩⟩
  ·rcases a3 i hi with e | e
   ·exact h6 i e
   ·exact fun q => by have := (h9 i (Or.inr (Or.inr q))).2; omega
  ·obtain ⟨q1, q2, q3, q4⟩ := h8 i hi
   exact ⟨q1, hn i q4 q2, q3, by omega⟩
  ·rcases hi with hi | hi | hi
   ·have := h9 i (Or.inl hi); omega
   ·refine ⟨?_, a4 i hi⟩
    rcases a3 i hi with e | e
    ·exact (h9 i (Or.inr (Or.inl e))).1
    ·omega
   ·have := h9 i (Or.inr (Or.inr hi)); omega
theorem Sx.lend (h : Sx B w sb d rd pn m T Z pl pr l k l' k') (hm : m ≤ 1000) (a : Option Addr) (n c : Nat) (ys : List Int) (hR : Rd w a n c ys) (hn : n ≤ 2000) :
  Calls Tryz.prog 31 #[.pointer (some ⟨pn, 0, none⟩), .slice a n c] w fun e w' => ∃ g cap, e = .returned (.slice (some ⟨g, 0, none⟩) n cap) ∧ Sx B w' sb d rd pn (m + 1) (T ++ [⟨g, n, cap, ys⟩]) Z pl pr l k l' k' ∧ Keep (Sk B Z) w w' := by
 have hsz := h.sz
 obtain ⟨P, R, Q, h1, h2, h3, h4, h5, h6, ⟨x1, x2, x3, x4⟩, h8, h9⟩ := h.ex
 have hsn := h.sn
 have hpB := h.pB
 refine (lendT h4 hm a n c ys hR hn).mono ?_
 rintro e w' ⟨g, cap, rfl, hL, hk⟩
 have hs := hk.size
 have hg : ¬ Q 0 := fun e => by have := (h9 _ (Or.inr (Or.inr e))).1; omega
 refine ⟨g, cap, rfl, ⟨⟨P, R, _, box_keep h1 hk x3, h2.keep hk (fun i hi e => (h5 i hi).2 e) hg, h3.keep hk (fun i hi e => h6 i hi e), hL, fun i hi => ⟨(h5 i hi).1, fun q => ?_⟩, fun i hi q => ?_, ⟨x1, x2, fun q => ?_, x4⟩, fun i hi => ?_, fun i hi => ?_⟩, hsn, h.pw.keep hk hg, hpB⟩, hk.mono fun i hi => ⟨(h9 i (Or.inr (Or.inr hi))).1, fun z => (h8 i z).2.2.1 hi⟩⟩
 ·rcases q with q | q
  ·exact (h5 i hi).2 q
  ·have := (h9 i (Or.inl hi)).2; omega
 ·rcases q with q | q
  ·exact h6 i hi q
  ·have := (h9 i (Or.inr (Or.inl hi))).2; omega
 ·rcases q with q | q
  ·exact x3 q
  ·omega
 ·obtain ⟨q1, q2, q3, q4⟩ := h8 i hi
  exact ⟨q1, q2, fun q => q.elim q3 (fun q => by omega), by omega⟩
 ·rcases hi with hi | hi | hi | hi
  ·have := h9 i (Or.inl hi); omega
  ·have := h9 i (Or.inr (Or.inl hi)); omega
  ·have := h9 i (Or.inr (Or.inr hi)); omega
  ·omega
theorem Sx.take (h : Sx B w sb d rd pn m T Z pl pr l k l' k') (u : Value) (x : List Int) (hu : Ow w u x) (hz : ∀ i, u.ownBlock = some i → Z i ∧ B ≤ i) (hl : x.length ≤ 100000) :
  Calls Tryz.prog 34 #[.pointer (some ⟨pn + 1, 0, none⟩), u] w fun e w' => ∃ r, e = .returned r ∧ Sx B w' sb d rd pn m [] (fun _ => False) pl pr l k l' k' ∧ Below B w w' := by
 have hsz := h.sz
 obtain ⟨P, R, Q, h1, h2, h3, h4, h5, h6, ⟨x1, x2, x3, x4⟩, h8, h9⟩ := h.ex
 have hsn := h.sn
 have hpB := h.pB
 refine (takeQ h4.q u x hu (fun i e q => (h8 i (hz i e).1).2.2.1 q) hl).mono ?_
 rintro e w' ⟨r, rfl, hL, hk⟩
 have hs := hk.size
 have hg : ¬ Q 0 := fun e => by have := (h9 _ (Or.inr (Or.inr e))).1; omega
 refine ⟨r, rfl, ⟨⟨P, R, _, box_keep h1 hk x3, h2.keep hk (fun i hi e => (h5 i hi).2 e) hg, h3.keep hk (fun i hi e => h6 i hi e), hL.t, fun i hi => ⟨(h5 i hi).1, fun q => ?_⟩, fun i hi q => ?_, ⟨x1, x2, fun q => ?_, fun e => e⟩, fun i hi => hi.elim, fun i hi => ?_⟩, hsn, h.pw.keep hk hg, hpB⟩, hk.below hsz.2 fun i hi => (h9 i (Or.inr (Or.inr hi))).1⟩
 ·rcases q with q | q | q
  ·exact (h5 i hi).2 q
  ·exact (h8 i (hz i q).1).1 hi
  ·have := (h9 i (Or.inl hi)).2; omega
 ·rcases q with q | q | q
  ·exact h6 i hi q
  ·exact (h8 i (hz i q).1).2.1 hi
  ·have := (h9 i (Or.inr (Or.inl hi))).2; omega
 ·rcases q with q | q | q
  ·exact x3 q
  ·exact x4 (hz _ q).1
  ·omega
 ·rcases hi with hi | hi | hi | hi | hi
  ·have := h9 i (Or.inl hi); omega
  ·have := h9 i (Or.inr (Or.inl hi)); omega
  ·have := h9 i (Or.inr (Or.inr hi)); omega
  ·have := hz i hi; have := (h8 i (hz i hi).1).2.2.2; omega
  ·omega
theorem Sx.rrd (h : Sx B w sb d rd pn m T Z pl pr l k l' k') {a : Option Addr} {N c : Nat} {rs : List (List Int)} (ho : w.ownsRow 0 29 1 (.slice a N c) N (T.map Lt.v)) (hT : T.map Lt.ys = rs) (hl : T.length = N) (hN : N ≤ 1000) :
  RRd w a N rs ∧ ∀ S : Nat → Prop, (∀ t ∈ T, ¬ S t.g) → (∀ g, (Value.slice a N c).ownBlock = some g → ¬ S g) → RNot w a N S := by
 have hc : 0 < N → ∃ g, a = some ⟨g, 0, none⟩ ∧ ∀ j, j < N → ∃ t, T[j]? = some t ∧ w.cell? ⟨g, j, none⟩ = some t.v := fun h0 => by
  rcases ho.2 with ⟨_, h9⟩ | ⟨g, cap, cur, h9, _⟩
  ·omega
  ·injection h9 with h9
   subst h9
   refine ⟨g, rfl, fun j hj => ?_⟩
   have hj2 : T[j]? = some T[j] := List.getElem?_eq_getElem (by omega)
   have hm : (T.map Lt.v)[j]? = some (Lt.v T[j]) := by rw [List.getElem?_map, hj2]; rfl
   have hcc := ho.cells (g := g) rfl j _ hm
   rw [add_flat, Nat.zero_add] at hcc
   exact ⟨_, hj2, hcc⟩
 refine ⟨⟨by rw [← hT, List.length_map]; exact hl, by omega, fun h0 => ?_⟩, fun S hS hg => ⟨fun ad e => ?_, fun b off e j hj aj nj cj hcj ad ea => ?_⟩⟩
 ·obtain ⟨g, e, hj⟩ := hc h0
  refine ⟨g, 0, e, fun j hjn => ?_⟩
  obtain ⟨t, h1, h2⟩ := hj j hjn
  refine ⟨_, _, _, by rw [Nat.zero_add]; exact h2, ?_⟩
  have : rs.getD j [] = t.ys := by rw [← hT, List.getD_eq_getElem?_getD, List.getElem?_map, h1]; rfl
  rw [this]
  exact h.tr (List.mem_of_getElem? h1)
 ·by_cases h0 : 0 < N
  ·obtain ⟨g, e2, _⟩ := hc h0
   rw [e2] at e
   injection e with e
   subst e
   exact hg g (by rw [e2]; rfl)
  ·rcases ho.2 with ⟨h9, _⟩ | ⟨g, cap, cur, h9, _⟩
   ·injection h9 with h9
    rw [h9] at e
    cases e
   ·injection h9 with h9
    rw [h9] at e
    injection e with e
    subst e
    exact hg g (by rw [h9]; rfl)
 ·obtain ⟨g, e2, hq⟩ := hc (by omega)
  rw [e2] at e
  injection e with e
  injection e with e3 e4
  subst e3 e4
  obtain ⟨t, h1, h2⟩ := hq j hj
  rw [Nat.zero_add, h2] at hcj
  injection hcj with hcj
  injection hcj with hcj
  subst hcj
  injection ea with ea
  subst ea
  exact hS t (List.mem_of_getElem? h1)
theorem Sx.back (h : Sx B w sb d rd pn m T Z pl pr l k l k) (hm : m ≤ 1000) :
  Calls Tryz.prog 35 #[.pointer (some ⟨pn, 0, none⟩)] w fun e w' => e = .returned (.bool true) ∧ Below B w w' ∧ ∃ (Q : Nat → Prop) (fv wv : Value) (fs ws : List Value) (ys : List (List Int)) (N : Nat), BookAt w' (pn + 1) fv wv fs ws ys N ∧ (∀ j, BF (pn + 1) fv wv fs ws j → Q j) ∧ ∀ w2, Keep Q w' w2 → Sd B w2 sb d rd (some l) k ∧ Below B w' w2 := by
 have hsz := h.sz
 obtain ⟨P, R, Q, h1, h2, h3, h4, h5, h6, ⟨x1, x2, x3, x4⟩, h8, h9⟩ := h.ex
 have hsn := h.sn
 have hpB := h.pB
 have hg : ¬ Q 0 := fun e => by have := (h9 _ (Or.inr (Or.inr e))).1; omega
 refine (backQ h4.q hm).mono ?_
 rintro e w' ⟨rfl, hk, fv, wv, fs, ws, ys, N, hB, hF⟩
 have hs := hk.size
 refine ⟨rfl, hk.below hsz.2 fun i hi => (h9 i (Or.inr (Or.inr hi))).1, Q, fv, wv, fs, ws, ys, N, hB, hF, fun w2 hk2 => ?_⟩
 have hkk := hk.trans hk2
 have hs2 := hk2.size
 exact ⟨⟨⟨P, R, pl, pr, box_keep h1 hkk x3, h2.keep hkk (fun i hi e => (h5 i hi).2 e) hg, h3.keep hkk (fun i hi e => h6 i hi e), fun i hi => (h5 i hi).1, x1, x2, fun i hi => ⟨(h9 i (hi.elim Or.inl (fun e => Or.inr (Or.inl e)))).1, Nat.lt_of_lt_of_le (h9 i (hi.elim Or.inl (fun e => Or.inr (Or.inl e)))).2 hkk.size⟩⟩, hsn, h.pw.keep hkk hg, hpB⟩, hk2.below (by omega) fun i hi => (h9 i (Or.inr (Or.inr hi))).1⟩
theorem Sd.sx (h : Sd B w sb d rd (some l) k) (hB : B ≤ w.heap.size) : ∃ pl pr, Sx B ((w.alloc (.cells #[.slice none 0 0, .slice none 0 0] 73)).alloc (.cells #[.slice none 0 0, .slice none 0 0, .slice none 0 0, .slice none 0 0, .int .i64 0] 76)) sb d rd w.heap.size 0 [] (fun _ => False) pl pr l k l k := by
 obtain ⟨P, R, pl, pr, h1, h2, h3, h4, h5, h6, h7⟩ := h.ex
 have hb : Below w.heap.size w ((w.alloc (.cells #[.slice none 0 0, .slice none 0 0] 73)).alloc (.cells #[.slice none 0 0, .slice none 0 0, .slice none 0 0, .slice none 0 0, .int .i64 0] 76)) := ((Below.refl _ _).alloc (Nat.le_refl _) _).alloc (by simp) _
 have hsz : ((w.alloc (.cells #[.slice none 0 0, .slice none 0 0] 73)).alloc (.cells #[.slice none 0 0, .slice none 0 0, .slice none 0 0, .slice none 0 0, .int .i64 0] 76)).heap.size = w.heap.size + 2 := by simp
 have b0 : Keep (fun _ => False) w _ := Keep.ofBelow hb
 have hlt := (Array.getElem?_eq_some_iff.1 h1).1
 refine ⟨pl, pr, ⟨P, R, _, box_below h1 hb, h2.keep b0 (fun _ _ e => e) (fun e => e), h3.keep b0 (fun _ _ e => e), (LBq.start w).t, fun i hi => ⟨h4 i hi, fun q => ?_⟩, fun i hi q => ?_, ⟨h5, h6, fun q => ?_, fun e => e⟩, fun i hi => hi.elim, fun i hi => ?_⟩, h.sn, h.pw.keep b0 (fun e => e), h.pB⟩
 ·have := (h7 i (Or.inl hi)).2; omega
 ·have := (h7 i (Or.inr hi)).2; omega
 ·omega
 ·rw [hsz]
  rcases hi with hi | hi | hi
  ·have := h7 i (Or.inl hi); omega
  ·have := h7 i (Or.inr hi); omega
  ·omega
end
end Go.Proofs.YtikkieaokfailaaGreatDoor

namespace Go.Proofs.YtikkieaokfailaaGreatDoor
open Go.RowKit Go.Joins
def RcS (rs : List (List Int)) : Prop := ∀ r ∈ rs, r.length ≤ 200
theorem rcs_append {l : Lg} (h : RcS l.recs) (k : Dk) (xs : List Int) (hx : xs.length ≤ 200) : RcS (appendT l k xs).2.1.recs := by
 unfold appendT
 split
 ·exact h
 ·unfold appendL
  dsimp only
  split
  ·intro r hr
   rcases List.mem_append.1 hr with hr | hr
   ·exact h r hr
   ·rw [List.mem_singleton.1 hr]
    omega
  ·exact h
theorem rcs_rebase {l : Lg} (h : RcS l.recs) (k : Dk) (rs : List (List Int)) (hx : ∀ r ∈ rs, r.length ≤ 200) : RcS (rebaseT l k rs).2.1.recs := by
 unfold rebaseT
 split
 ·exact h
 ·split
  ·exact h
  ·obtain ⟨dn, e | e⟩ := rebase_cases l k rs
   ·rw [e]; exact h
   ·rw [e]; exact hx
structure Po (n : Nat) (l : Lg) (k : Dk) : Prop where
 fl : k.fs.length ≤ 30 + 14 * n
 st : k.steps ≤ 100 + 5300 * n
 lg : LgB n l
 rc : RcS l.recs
section
variable {n : Nat} {l : Lg} {k : Dk}
theorem Po.append (h : Po n l k) (hr : Rise k.fs) (xs : List Int) (hx : xs.length ≤ 200) : Po (n + 1) (appendT l k xs).2.1 (appendT l k xs).2.2 := by
 have hrc := rcs_append h.rc k xs hx
 obtain ⟨g1, g2, g3, g4, g5, g6⟩ := h.lg
 have t1 := (tw_append l k xs hr).2
 have t3 := z0_append g6 k xs
 have h3 := h.fl
 have h4 := h.st
 have l1 := lay_gr l.most l.ch (formL xs) l.dn k
 rw [formL_len] at l1
 have e : appendT l k xs = appendL l k xs := by unfold appendT; rw [if_neg (by omega)]
 rw [e] at t1 t3 hrc ⊢
 refine ⟨by omega, ?_, ⟨?_, ?_, ?_, g4, ?_, t3⟩, hrc⟩
 ·show (layL l.most l.ch (formL xs) l.dn k).2.2.2.steps ≤ _; omega
 ·show (layL l.most l.ch (formL xs) l.dn k).2.1.g < _; omega
 ·show (layL l.most l.ch (formL xs) l.dn k).2.1.cnt ≤ _; omega
 ·show (layL l.most l.ch (formL xs) l.dn k).2.1.size ≤ _; omega
 ·unfold appendL
  dsimp only
  split
  ·rw [List.length_append, List.length_singleton]; omega
  ·omega
theorem Po.rebase (h : Po n l k) (hn : n ≤ 200) (hr : Rise k.fs) (rs : List (List Int)) (hx : ∀ r ∈ rs, r.length ≤ 200) (hl : rs.length ≤ 12) : Po (n + 1) (rebaseT l k rs).2.1 (rebaseT l k rs).2.2 := by
 have hrc := rcs_rebase h.rc k rs hx
 have hlg := h.lg
 obtain ⟨g1, g2, g3, g4, g5, g6⟩ := h.lg
 have t1 := (tw_rebase l k rs hr).2
 have t3 := z0_rebase g6 k rs
 have h3 := h.fl
 have h4 := h.st
 have q1 := rebase_st l k rs
 refine ⟨by omega, ?_, ?_, hrc⟩
 ·unfold rebaseT
  split
  ·dsimp only; omega
  ·split
   ·dsimp only; omega
   ·omega
 ·unfold rebaseT at t3 ⊢
  split
  ·exact hlg.next
  ·split
   ·exact hlg.next
   ·rename_i b1 b2
    rw [if_neg b1, if_neg b2] at t3
    obtain ⟨dn, e | e⟩ := rebase_cases l k rs
    ·rw [e]; exact ⟨g1, by show l.ch.cnt ≤ _; omega, by show l.ch.size ≤ _; omega, g4, by show l.recs.length ≤ _; omega, g6⟩
    ·obtain ⟨_, _, a3, a4⟩ := layAll_gr l.most rs ⟨l.ch.g + 1, 0, 0, false⟩ l.dn k
     have a5 := layAll_sz l.most rs ⟨l.ch.g + 1, 0, 0, false⟩ l.dn k hx
     rw [e] at t3 ⊢
     dsimp only at a3 a4 a5
     exact ⟨by dsimp only; omega, by dsimp only; omega, by dsimp only; omega, g4, by dsimp only; omega, t3⟩
end
theorem own_open : ∃ l k, opI 100 (newK 8000) = (some l, k) ∧ Po 1 l k := by
 have h0 : (openL 100 (newK 8000)).1 = 0 := by kernel_rfl
 have hg := newK_good (room := 8000) (by omega)
 have t1 := (tw_open 100 (newK 8000) hg.rise).2
 obtain ⟨o1, o2, o3⟩ := open_gr 100 (newK 8000)
 obtain ⟨b1, b2, b3⟩ := open_bd 100 (newK 8000) hg.rise hg.rbd
 have u0 : used (newK 8000).fs = 0 := rfl
 have u1 : (newK 8000).fs.length = 0 := rfl
 have u2 : (newK 8000).steps = 0 := rfl
 refine ⟨(openL 100 (newK 8000)).2.1, (openL 100 (newK 8000)).2.2, ?_, ⟨by omega, by omega, ⟨b3, by omega, by omega, by omega, by omega, z0_open 100 (newK 8000)⟩, by rw [show (openL 100 (newK 8000)).2.1.recs = [] by kernel_rfl]; exact fun r hr => by cases hr⟩⟩
 unfold opI
 rw [if_neg (by omega)]
 show (opO 100 (newK 8000), (openL 100 (newK 8000)).2.2) = _
 unfold opO
 rw [if_pos h0]
end Go.Proofs.YtikkieaokfailaaGreatDoor
