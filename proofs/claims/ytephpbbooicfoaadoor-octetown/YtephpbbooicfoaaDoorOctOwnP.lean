/- What OctetOwn leans on: a loan and a book side by side, step by step; octet's readers, their two ways in one. -/
import Derived.Test.YtephpbbooicfoaaDoorOwnC
import Derived.Test.YtephpbbooicfoaaDoorReadI
import Derived.Test.YtephpbbooicfoaaDoorReadF
import Derived.Test.YtephpbbooicfoaaDoorRs
import Derived.Test.YtephpbbooicfoaaDoorPutF
import Derived.Test.YtephpbbooicfoaaDoorTexts
namespace Go.Proofs.YtephpbbooicfoaaDoor
open Go.RowKit

/-- A loan and a book, apart, from B on; at most m lists lent. -/
def LB (B pn pk m : Nat) (W : World) : Prop :=
  ∃ (lv mv : Value) (ls ms : List Value) (xs : List (List Int)) (fv wv : Value) (fs ws : List Value) (ys : List (List Int)) (N : Nat),
    LoanAt W pn lv mv ls ms xs ∧ BookAt W pk fv wv fs ws ys N ∧ (∀ j, LF pn lv mv ls ms j → ¬ BF pk fv wv fs ws j) ∧ (∀ j, LF pn lv mv ls ms j → B ≤ j) ∧ (∀ j, BF pk fv wv fs ws j → B ≤ j) ∧ ls.length ≤ m ∧ (∀ x ∈ xs, x.length ≤ 3000)

theorem LB.ext {B pn pk m : Nat} {W W' : World} (h : LB B pn pk m W) (hx : Below W.heap.size W W') : LB B pn pk m W' := by
  obtain ⟨lv, mv, ls, ms, xs, fv, wv, fs, ws, ys, N, h1, h2, h3, h4, h5, h6, h7⟩ := h
  have k := Keep.ofBelow (S := fun _ => False) hx
  exact ⟨lv, mv, ls, ms, xs, fv, wv, fs, ws, ys, N, h1.keep k (fun _ _ h => h), h2.keep k (fun _ _ h => h), h3, h4, h5, h6, h7⟩

theorem lendR {B pn pk m : Nat} {W : World} (h : LB B pn pk m W) (hB : B ≤ W.heap.size) (hm : m ≤ 1000) (a : Option Addr) (n c : Nat) (ys : List Int) (hR : Rd W a n c ys) (hn : n ≤ 2000) :
    Calls Tryd.prog 24 #[.pointer (some ⟨pn, 0, none⟩), .slice a n c] W fun e W' => ∃ g cap, e = .returned (.slice (some ⟨g, 0, none⟩) n cap) ∧ Rd W' (some ⟨g, 0, none⟩) n cap ys ∧ LB B pn pk (m + 1) W' ∧ Below B W W' := by
  obtain ⟨lv, mv, ls, ms, xs, fv, wv, fs, ws, zs, N, h1, h2, h3, h4, h5, h6, h7⟩ := h
  have hml : ms.length = ls.length := h1.two.g.ows.len.trans h1.two.f.ows.len.symm
  have hyl := hR.len
  refine (loanBytes_any pn lv mv ls ms xs a n c ys W h1 hR (by omega) (by omega) (by omega)).mono ?_
  rintro e W' ⟨g, cap, lv', mv', ml, rfl, L', hr', hg, hf, hk⟩
  refine ⟨g, cap, rfl, hr', ⟨_, _, _, _, _, _, _, _, _, _, _, L', h2.keep hk (fun j e s => h3 j s e), fun j e s => ?_, fun j e => ?_, h5, by rw [List.length_append]; simp; omega, fun x hx => ?_⟩, hk.below hB h4⟩
  · rcases hf j e with e | e
    · exact h3 j e s
    · have := h2.lt j s; omega
  · rcases hf j e with e | e
    · exact h4 j e
    · omega
  · rcases List.mem_append.1 hx with hx | hx
    · exact h7 x hx
    · simp at hx
      rw [hx, List.length_append]
      have : marks5.length = 5 := rfl
      omega

/-- A list in new memory since W0, taken in. -/
theorem takeR {B pn pk m : Nat} {W0 W : World} (h : LB B pn pk m W0) (hB : B ≤ W0.heap.size) (hx : Below W0.heap.size W0 W) (u : Value) (x : List Int) (hu : Ow W u x) (hn : ∀ k, u.ownBlock = some k → W0.heap.size ≤ k) (hl : x.length ≤ 100000) :
    Calls Tryd.prog 23 #[.pointer (some ⟨pk, 0, none⟩), u] W fun e W' => ∃ r, e = .returned r ∧ LB B pn pk m W' ∧ Below B W W' := by
  obtain ⟨lv, mv, ls, ms, xs, fv, wv, fs, ws, zs, N, h1, h2, h3, h4, h5, h6, h7⟩ := h
  have k := Keep.ofBelow (S := fun _ => False) hx
  have hs := hx.size
  refine (bookBytes_any pk N fv wv fs ws zs u x W (h2.keep k (fun _ _ h => h)) hu (fun j e s => by have h1 := hn j e; have h2 := h2.lt j s; omega) (by omega)).mono ?_
  rintro e W' ⟨r, fv', wv', fs', ws', ys', N', rfl, hb', hf', hk'⟩
  refine ⟨r, rfl, ⟨_, _, _, _, _, _, _, _, _, _, _, (h1.keep k (fun _ _ h => h)).keep hk' h3, hb', fun j e s => ?_, h4, fun j e => ?_, h6, h7⟩, hk'.below (by omega) h5⟩
  · rcases hf' j s with s | s | s
    · exact h3 j e s
    · have h1' := hn j s; have h2' := h1.lt j e; omega
    · have h2' := h1.lt j e; omega
  · rcases hf' j e with e | e | e
    · exact h5 j e
    · have := hn j e; omega
    · omega

theorem backR {B pn pk m : Nat} {W : World} (h : LB B pn pk m W) (hB : B ≤ W.heap.size) (hm : m ≤ 1000) :
    Calls Tryd.prog 26 #[.pointer (some ⟨pn, 0, none⟩)] W fun e W' => e = .returned (.bool true) ∧ Below B W W' ∧ ∃ fv wv fs ws ys N, BookAt W' pk fv wv fs ws ys N ∧ ∀ j, BF pk fv wv fs ws j → B ≤ j := by
  obtain ⟨lv, mv, ls, ms, xs, fv, wv, fs, ws, zs, N, h1, h2, h3, h4, h5, h6, h7⟩ := h
  refine (loanBack_any pn lv mv ls ms xs W h1 (by omega) (fun x hx => by have := h7 x hx; omega)).mono ?_
  rintro e W' ⟨rfl, hk⟩
  exact ⟨rfl, hk.below hB h4, _, _, _, _, _, _, h2.keep hk (fun j e s => h3 j s e), h5⟩

/-- An answer's list: its own, new since w. -/
def New (w w' : World) (v : Value) (n : Nat) : Prop := ∃ x, Ow w' v x ∧ (∀ k, v.ownBlock = some k → w.heap.size ≤ k) ∧ x.length ≤ n
theorem New.nil (w w' : World) (n : Nat) : New w w' (.slice none 0 0) n := ⟨[], ⟨World.ownsRow_nil _ _ _ _, Bd.nil⟩, (fun k e => by cases e), Nat.zero_le _⟩
theorem New.of {w w' : World} {v : Value} {n k : Nat} {x : List Int} (h : w'.ownsRow w.heap.size 5 1 v k (bc x)) (hb : Bd x) (hn : x.length ≤ n) : New w w' v n := ⟨x, Ow.ofFrom h hb, fun j e => (h.lt j e).1, hn⟩
theorem New.sl {w w' : World} {v : Value} {n : Nat} (h : New w w' v n) : ∃ a m c, v = .slice a m c := by obtain ⟨x, h1, _⟩ := h; exact h1.sl

theorem takeN {B pn pk m : Nat} {W0 W : World} (h : LB B pn pk m W0) (hB : B ≤ W0.heap.size) (hx : Below W0.heap.size W0 W) (u : Value) (n : Nat) (hu : New W0 W u n) (hl : n ≤ 100000) :
    Calls Tryd.prog 23 #[.pointer (some ⟨pk, 0, none⟩), u] W fun e W' => ∃ r, e = .returned r ∧ LB B pn pk m W' ∧ Below B W W' := by
  obtain ⟨x, h1, h2, h3⟩ := hu
  exact takeR h hB hx u x h1 h2 (by omega)

theorem uintN (a : Option Addr) (n c : Nat) (xs : List Int) (w : World) (hR : Rd w a n c xs) (hn : n ≤ 2000) :
    Calls Tryd.prog 7 #[.slice a n c] w fun e w' => ∃ z v m, e = .returned (.tuple #[.int .u64 z, v, .int .i64 m]) ∧ New w w' v 2000 ∧ Ext w w' := by
  have hl := hR.len
  refine (uint_any a n c xs w hR (by omega)).mono ?_
  rintro e w' (⟨_, rfl, rfl⟩ | ⟨_, v, rfl, ho, hb⟩)
  · exact ⟨_, _, _, rfl, New.nil _ _ _, Ext.refl _⟩
  · exact ⟨_, _, _, rfl, New.of ho (hR.bytes.drop _) (by rw [List.length_drop]; omega), hb⟩
theorem intN (a : Option Addr) (n c : Nat) (xs : List Int) (w : World) (hR : Rd w a n c xs) (hn : n ≤ 2000) :
    Calls Tryd.prog 9 #[.slice a n c] w fun e w' => ∃ z v m, e = .returned (.tuple #[.int .i64 z, v, .int .i64 m]) ∧ New w w' v 2000 ∧ Ext w w' := by
  have hl := hR.len
  refine (int_any a n c xs w hR (by omega)).mono ?_
  rintro e w' (⟨_, rfl, hb⟩ | ⟨_, v, rfl, ho, hb⟩)
  · exact ⟨_, _, _, rfl, New.nil _ _ _, hb⟩
  · exact ⟨_, _, _, rfl, New.of ho (hR.bytes.drop _) (by rw [List.length_drop]; omega), hb⟩
theorem floatN (a : Option Addr) (n c : Nat) (xs : List Int) (w : World) (hR : Rd w a n c xs) (hn : n ≤ 2000) :
    Calls Tryd.prog 11 #[.slice a n c] w fun e w' => ∃ z v m, e = .returned (.tuple #[.float .f64 z, v, .int .i64 m]) ∧ New w w' v 2000 ∧ Ext w w' := by
  have hl := hR.len
  refine (float_any a n c xs w hR (by omega)).mono ?_
  rintro e w' (⟨_, rfl, hb⟩ | ⟨_, v, rfl, ho, hb⟩)
  · exact ⟨_, _, _, rfl, New.nil _ _ _, hb⟩
  · exact ⟨_, _, _, rfl, New.of ho (hR.bytes.drop _) (by rw [List.length_drop]; omega), hb⟩
theorem putUintN (a : Option Addr) (n c : Nat) (xs : List Int) (k : Nat) (w : World) (h : Rd w a n c xs) (hn : n ≤ 2000) (hk : k < 18446744073709551616) :
    Calls Tryd.prog 18 #[.slice a n c, .int .u64 k] w fun e w' => ∃ v, e = .returned v ∧ New w w' v 5000 ∧ Ext w w' := by
  have hl := h.len
  have h10 := form_len10 k hk
  refine (putUint_any a n c xs k w h (by omega) hk).mono ?_
  rintro e w' ⟨v, rfl, ho, hb⟩
  exact ⟨v, rfl, New.of ho (h.bytes.append (form_bd k)) (by rw [List.length_append]; omega), hb⟩
theorem putIntN (a : Option Addr) (n c : Nat) (xs : List Int) (k : Int) (w : World) (h : Rd w a n c xs) (hn : n ≤ 2000) (h0 : -9223372036854775808 ≤ k) (h1 : k ≤ 9223372036854775807) :
    Calls Tryd.prog 19 #[.slice a n c, .int .i64 k] w fun e w' => ∃ v, e = .returned v ∧ New w w' v 5000 ∧ Ext w w' := by
  have hl := h.len
  have h10 := form_len10 (foldv k) (fold_lt k h0 h1)
  refine (putInt_any a n c xs k w h (by omega) h0 h1).mono ?_
  rintro e w' ⟨v, rfl, ho, hb⟩
  exact ⟨v, rfl, New.of ho (h.bytes.append (form_bd _)) (by rw [List.length_append]; omega), hb⟩
theorem putFloatN (a : Option Addr) (n c : Nat) (xs : List Int) (k : Nat) (w : World) (h : Rd w a n c xs) (hn : n ≤ 2000) (hk : k < 18446744073709551616) :
    Calls Tryd.prog 20 #[.slice a n c, .float .f64 k] w fun e w' => ∃ v, e = .returned v ∧ New w w' v 5000 ∧ Ext w w' := by
  have hl := h.len
  refine (putFloat_any a n c xs k w h (by omega) hk).mono ?_
  rintro e w' ⟨v, rfl, ho, hb⟩
  exact ⟨v, rfl, New.of ho (h.bytes.append (fbl_bd _ _)) (by rw [List.length_append, fbl_len]; omega), hb⟩
theorem putTextN (a : Option Addr) (n c : Nat) (xs : List Int) (s : ByteArray) (w : World) (h : Rd w a n c xs) (hn : n ≤ 2000) (hs : s.size ≤ 300) :
    Calls Tryd.prog 22 #[.slice a n c, .string s] w fun e w' => ∃ v, e = .returned v ∧ New w w' v 5000 ∧ Ext w w' := by
  have hl := h.len
  have h10 := form_len10 s.size (by omega)
  refine (putText_any a n c xs s w h (by omega) (by omega)).mono ?_
  rintro e w' ⟨v, rfl, ho, hb⟩
  exact ⟨v, rfl, New.of ho ((h.bytes.append (form_bd _)).append (nums_bd s)) (by rw [List.length_append, List.length_append, nums_len]; omega), hb⟩

/-- All that the law holds between two steps. -/
structure Sta (w : World) (pn pk : Nat) (ao : Option Addr) (n c N : Nat) (I : Int) (S : ByteArray) (m : Nat) (W : World) : Prop where
  lb : LB (w.heap.size + 1) pn pk m W
  bel : Below w.heap.size w W
  sz : w.heap.size + 1 ≤ W.heap.size
  c0 : W.cell? ⟨w.heap.size, 0, none⟩ = some (.slice ao n c)
  c1 : W.cell? ⟨w.heap.size, 1, none⟩ = some (.int .u64 N)
  c2 : W.cell? ⟨w.heap.size, 2, none⟩ = some (.int .i64 I)
  c4 : W.cell? ⟨w.heap.size, 4, none⟩ = some (.string S)

section
variable {w : World} {pn pk : Nat} {ao : Option Addr} {n c N : Nat} {I : Int} {S : ByteArray} {m : Nat} {W W' : World}
theorem Sta.step (h : Sta w pn pk ao n c N I S m W) {m' : Nat} (hl : LB (w.heap.size + 1) pn pk m' W') (hb : Below (w.heap.size + 1) W W') : Sta w pn pk ao n c N I S m' W' := by
  have hs := h.sz
  refine ⟨hl, h.bel.trans (hb.mono (by omega)), Nat.le_trans h.sz hb.size, (hb.cell (p := ⟨w.heap.size, 0, none⟩) (by simp)).trans h.c0, (hb.cell (p := ⟨w.heap.size, 1, none⟩) (by simp)).trans h.c1, (hb.cell (p := ⟨w.heap.size, 2, none⟩) (by simp)).trans h.c2, (hb.cell (p := ⟨w.heap.size, 4, none⟩) (by simp)).trans h.c4⟩
theorem Sta.ext (h : Sta w pn pk ao n c N I S m W) (hx : Below W.heap.size W W') : Sta w pn pk ao n c N I S m W' := h.step (h.lb.ext hx) (hx.mono h.sz)

theorem fewS1 (h : Sta w pn pk ao n c N I S m W) (a : Option Addr) (l k : Nat) (xs : List Int) (hR : Rd w a l k xs) :
    Calls Tryd.prog 6 #[.slice a l k] W fun e W' => ∃ a' l' k' X, e = .returned (.slice a' l' k') ∧ l' ≤ 2000 ∧ Rd W' a' l' k' X ∧ Sta w pn pk ao n c N I S m W' := by
  refine (fewR a l k xs W (hR.carry (Nat.le_refl _) h.bel)).mono ?_
  rintro e W' ⟨a', l', k', rfl, hl, hr, hx⟩
  exact ⟨a', l', k', _, rfl, hl, hr, h.ext hx⟩
theorem lendS (h : Sta w pn pk ao n c N I S m W) (hm : m ≤ 1000) (a : Option Addr) (l k : Nat) (X : List Int) (hR : Rd W a l k X) (hl : l ≤ 2000) :
    Calls Tryd.prog 24 #[.pointer (some ⟨pn, 0, none⟩), .slice a l k] W fun e W' => ∃ g cap, e = .returned (.slice (some ⟨g, 0, none⟩) l cap) ∧ Rd W' (some ⟨g, 0, none⟩) l cap X ∧ Sta w pn pk ao n c N I S (m + 1) W' := by
  refine (lendR h.lb h.sz hm a l k X hR hl).mono ?_
  rintro e W' ⟨g, cap, rfl, hr, hl', hb⟩
  exact ⟨g, cap, rfl, hr, h.step hl' hb⟩
theorem takeS (h : Sta w pn pk ao n c N I S m W) (hx : Below W.heap.size W W') (u : Value) (q : Nat) (hu : New W W' u q) (hq : q ≤ 100000) :
    Calls Tryd.prog 23 #[.pointer (some ⟨pk, 0, none⟩), u] W' fun e W2 => ∃ r, e = .returned r ∧ Sta w pn pk ao n c N I S m W2 := by
  refine (takeN h.lb h.sz hx u q hu hq).mono ?_
  rintro e W2 ⟨r, rfl, hl, hb⟩
  exact ⟨r, rfl, (h.ext hx).step hl hb⟩
end

end Go.Proofs.YtephpbbooicfoaaDoor
