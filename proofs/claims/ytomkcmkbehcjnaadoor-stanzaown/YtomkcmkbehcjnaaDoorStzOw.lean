/- Twin of what is cut; Write, either way. -/
import Derived.Test.YtomkcmkbehcjnaaDoorStzW
import Derived.Test.YtomkcmkbehcjnaaDoorStzM
import Derived.Test.YtomkcmkbehcjnaaDoorOwnB
import Derived.Test.YtomkcmkbehcjnaaDoorStzU
import Derived.Test.YtomkcmkbehcjnaaDoorStzR
namespace Go.Proofs.YtomkcmkbehcjnaaDoor
open Go.RowKit

/-- A stanza that is cut already: Twin's answer reads as it. -/
theorem stwin_id (K : Int) (I : Nat) (A B T : ByteArray) (la : Option Addr) (ln lc : Nat) (N : Int) (F : Nat) (L : List ByteArray) (w : World) (hR : SRd w la ln lc L) (hA : A.size ≤ 1100) (hB : B.size ≤ 1100) (hT : T.size ≤ 1100) (hl : L.length ≤ 70) (hs : ∀ s ∈ L, s.size ≤ 1100) :
    Calls Tryd.prog 8 #[.agg #[.int .i64 K, .int .u64 I, .string A, .string B, .string T, .slice la ln lc, .int .i64 N, .float .f64 F]] w fun e w' => ∃ la' ln' lc', e = .returned (.agg #[.int .i64 K, .int .u64 I, .string A, .string B, .string T, .slice la' ln' lc', .int .i64 N, .float .f64 F]) ∧ SRd w' la' ln' lc' L ∧ Below w.heap.size w w' := by
  have h := stwin_any K I A B T la ln lc N F L w hR (by omega) (by omega) (by omega)
  rw [cutS_id hA, cutS_id hB, cutS_id hT, cutL_id hl hs] at h
  exact h.mono fun _ _ ⟨a, n, c, he, _, hr, hb⟩ => ⟨a, n, c, he, hr, hb⟩

theorem wpt_bd {bs : List Bool} {p : Nat → List Int} (h : ∀ k, Bd (p k)) : ∀ k, Bd (wpt bs p k)
  | 0 => Bd.nil
  | k + 1 => by
    rw [wpt]
    refine (wpt_bd h k).append ?_
    split
    · exact h k
    · exact Bd.nil
theorem pf_bd (A B T : ByteArray) (L : List ByteArray) (N : Int) (F : Nat) : ∀ k, Bd (pf A B T L N F k)
  | 0 => tform_bd A
  | 1 => tform_bd B
  | 2 => tform_bd T
  | 3 => lform_bd L
  | 4 => form_bd _
  | _ + 5 => fbl_bd _ _
theorem wform_bd (K : Int) (I : Nat) (A B T : ByteArray) (L : List ByteArray) (N : Int) (F : Nat) : Bd (wform K I A B T L N F) := by
  unfold wform
  refine ((((form_bd _).append (form_bd _)).append ?_).append (wpt_bd (pf_bd A B T L N F) 6))
  intro x hx
  have := thr_lt A B T L.length N F
  simp at hx
  omega

/-- Write, either way. -/
theorem write_any (K : Int) (I : Nat) (A B T : ByteArray) (la : Option Addr) (ln lc : Nat) (N : Int) (F : Nat) (L : List ByteArray) (w : World) (hL : Lays w) (hR : SRd w la ln lc L) (hA : A.size ≤ 1100) (hB : B.size ≤ 1100) (hT : T.size ≤ 1100) (hI : I < 18446744073709551616) (hN0 : -9223372036854775808 ≤ N) (hN1 : N ≤ 9223372036854775807) (hF : F < 18446744073709551616) :
    Calls Tryd.prog 9 #[.agg #[.int .i64 K, .int .u64 I, .string A, .string B, .string T, .slice la ln lc, .int .i64 N, .float .f64 F]] w fun e w' => ∃ a n c, e = .returned (.tuple #[.slice a n c, .int .i64 ((chk K A B T L N F : Nat) : Int)]) ∧ (chk K A B T L N F ≠ 0 → n = 0) ∧ (chk K A B T L N F = 0 → Rd w' a n c (wform K I A B T L N F)) ∧ Below w.heap.size w w' := by
  by_cases hc : chk K A B T L N F = 0
  · rw [hc]
    refine (write_ok K I A B T la ln lc N F L w hL hR hI hN0 hN1 hF hc).mono ?_
    rintro e w' ⟨v, rfl, ho, hb⟩
    obtain ⟨a, c, rfl, hr⟩ := Rd.ofOwn ho (wform_bd K I A B T L N F)
    exact ⟨a, _, c, rfl, fun h => absurd rfl h, fun _ => hr, hb⟩
  · refine (write_bad K I A B T la ln lc N F L w hL hR (by omega) (by omega) (by omega) hc).mono ?_
    rintro e w' ⟨rfl, hb⟩
    exact ⟨none, 0, 0, rfl, fun _ => rfl, fun h => absurd h hc, hb⟩

theorem wform_len {K : Int} {I : Nat} {A B T : ByteArray} {L : List ByteArray} {N : Int} {F : Nat} (hI : I < 18446744073709551616) (hN0 : -9223372036854775808 ≤ N) (hN1 : N ≤ 9223372036854775807) (h : chk K A B T L N F = 0) : (wform K I A B T L N F).length ≤ 90000 := by
  obtain ⟨hk, hA, hB, hT, hl, hs⟩ := chk_ok h
  have hkb := kn_bd hk
  have l0 := form_len10 K.toNat (by omega)
  have l1 := form_len10 I hI
  have lA := tform_len A hA
  have lB := tform_len B hB
  have lT := tform_len T hT
  have lL : (lform L).length ≤ 10 + 1034 * 64 := by
    unfold lform
    rw [List.length_append]
    have := form_len10 L.length (by omega)
    have h2 := texts_len L hs
    have h3 : 1034 * L.length ≤ 1034 * 64 := Nat.mul_le_mul_left _ hl
    omega
  have lN := form_len10 (foldv N) (fold_lt N hN0 hN1)
  have lF : (fbl (bitsv F) 8).length = 8 := fbl_len _ _
  unfold wform
  rw [List.length_append, List.length_append, List.length_append]
  have key : ∀ (b : Bool) (x : List Int) (m : Nat), x.length ≤ m → (if b = true then x else []).length ≤ m := fun b x m h => by
    cases b
    · simp
    · simpa using h
  simp only [wpt, List.length_append, List.length_nil, List.length_singleton, Nat.zero_add]
  have k0 := key ((tbits A B T L.length N F).getD 0 false) (pf A B T L N F 0) 1034 lA
  have k1 := key ((tbits A B T L.length N F).getD 1 false) (pf A B T L N F 1) 1034 lB
  have k2 := key ((tbits A B T L.length N F).getD 2 false) (pf A B T L N F 2) 1034 lT
  have k3 := key ((tbits A B T L.length N F).getD 3 false) (pf A B T L N F 3) (10 + 1034 * 64) lL
  have k4 := key ((tbits A B T L.length N F).getD 4 false) (pf A B T L N F 4) 10 lN
  have k5 := key ((tbits A B T L.length N F).getD 5 false) (pf A B T L N F 5) 8 (by rw [show pf A B T L N F 5 = fbl (bitsv F) 8 from rfl, lF]; exact Nat.le_refl _)
  omega
end Go.Proofs.YtomkcmkbehcjnaaDoor

/- A loan and a book side by side, their blocks bounded by a predicate: what lies outside it stands. -/
namespace Go.Proofs.YtomkcmkbehcjnaaDoor
open Go.RowKit

/-- A loan and a book, apart, all of whose blocks meet Fp; at most m lists lent. -/
def LBq (Fp : Nat → Prop) (pn pk m : Nat) (W : World) : Prop :=
  ∃ (lv mv : Value) (ls ms : List Value) (xs : List (List Int)) (fv wv : Value) (fs ws : List Value) (ys : List (List Int)) (N : Nat),
    LoanAt W pn lv mv ls ms xs ∧ BookAt W pk fv wv fs ws ys N ∧ (∀ j, LF pn lv mv ls ms j → ¬ BF pk fv wv fs ws j) ∧ (∀ j, LF pn lv mv ls ms j → Fp j) ∧ (∀ j, BF pk fv wv fs ws j → Fp j) ∧ ls.length ≤ m ∧ (∀ x ∈ xs, x.length ≤ 3000)

theorem LBq.keep {Fp S : Nat → Prop} {pn pk m : Nat} {W W' : World} (h : LBq Fp pn pk m W) (k : Keep S W W') (hS : ∀ j, Fp j → ¬ S j) : LBq Fp pn pk m W' := by
  obtain ⟨lv, mv, ls, ms, xs, fv, wv, fs, ws, ys, N, h1, h2, h3, h4, h5, h6, h7⟩ := h
  exact ⟨lv, mv, ls, ms, xs, fv, wv, fs, ws, ys, N, h1.keep k (fun j q => hS j (h4 j q)), h2.keep k (fun j q => hS j (h5 j q)), h3, h4, h5, h6, h7⟩
theorem LBq.ext {Fp : Nat → Prop} {pn pk m : Nat} {W W' : World} (h : LBq Fp pn pk m W) (hx : Below W.heap.size W W') : LBq Fp pn pk m W' :=
  h.keep (Keep.ofBelow (S := fun _ => False) hx) (fun _ _ q => q)
theorem LBq.mono {Fp Fq : Nat → Prop} {pn pk m : Nat} {W : World} (h : LBq Fp pn pk m W) (hm : ∀ j, j < W.heap.size → Fp j → Fq j) : LBq Fq pn pk m W := by
  obtain ⟨lv, mv, ls, ms, xs, fv, wv, fs, ws, ys, N, h1, h2, h3, h4, h5, h6, h7⟩ := h
  exact ⟨lv, mv, ls, ms, xs, fv, wv, fs, ws, ys, N, h1, h2, h3, fun j q => hm j (h1.lt j q) (h4 j q), fun j q => hm j (h2.lt j q) (h5 j q), h6, h7⟩

theorem lendQ {Fp : Nat → Prop} {pn pk m : Nat} {W : World} (h : LBq Fp pn pk m W) (hm : m ≤ 1000) (a : Option Addr) (n c : Nat) (ys : List Int) (hR : Rd W a n c ys) (hn : n ≤ 2000) :
    Calls Tryd.prog 20 #[.pointer (some ⟨pn, 0, none⟩), .slice a n c] W fun e W' => ∃ g cap, e = .returned (.slice (some ⟨g, 0, none⟩) n cap) ∧ Rd W' (some ⟨g, 0, none⟩) n cap ys ∧ LBq (fun j => Fp j ∨ (W.heap.size ≤ j ∧ j < W'.heap.size)) pn pk (m + 1) W' ∧ Keep Fp W W' := by
  obtain ⟨lv, mv, ls, ms, xs, fv, wv, fs, ws, zs, N, h1, h2, h3, h4, h5, h6, h7⟩ := h
  have hml : ms.length = ls.length := h1.two.g.ows.len.trans h1.two.f.ows.len.symm
  have hyl := hR.len
  refine (loanBytes_any pn lv mv ls ms xs a n c ys W h1 hR (by omega) (by omega) (by omega)).mono ?_
  rintro e W' ⟨g, cap, lv', mv', ml, rfl, L', hr', hg, hf, hk⟩
  refine ⟨g, cap, rfl, hr', ⟨_, _, _, _, _, _, _, _, _, _, _, L', h2.keep hk (fun j e s => h3 j s e), fun j e s => ?_, fun j e => ?_, fun j e => .inl (h5 j e), by rw [List.length_append]; simp; omega, fun x hx => ?_⟩, hk.mono h4⟩
  · rcases hf j e with e | e
    · exact h3 j e s
    · have := h2.lt j s; omega
  · rcases hf j e with e' | e'
    · exact .inl (h4 j e')
    · exact .inr ⟨e', L'.lt j e⟩
  · rcases List.mem_append.1 hx with hx | hx
    · exact h7 x hx
    · simp at hx
      rw [hx, List.length_append]
      have : marks5.length = 5 := rfl
      omega

/-- A list of its own, whose block is outside, taken in. -/
theorem takeQ {Fp : Nat → Prop} {pn pk m : Nat} {W : World} (h : LBq Fp pn pk m W) (u : Value) (x : List Int) (hu : Ow W u x) (hn : ∀ k, u.ownBlock = some k → ¬ Fp k) (hl : x.length ≤ 100000) :
    Calls Tryd.prog 19 #[.pointer (some ⟨pk, 0, none⟩), u] W fun e W' => ∃ r, e = .returned r ∧ LBq (fun j => Fp j ∨ u.ownBlock = some j ∨ (W.heap.size ≤ j ∧ j < W'.heap.size)) pn pk m W' ∧ Keep Fp W W' := by
  obtain ⟨lv, mv, ls, ms, xs, fv, wv, fs, ws, zs, N, h1, h2, h3, h4, h5, h6, h7⟩ := h
  refine (bookBytes_any pk N fv wv fs ws zs u x W h2 hu (fun j e s => hn j e (h5 j s)) (by omega)).mono ?_
  rintro e W' ⟨r, fv', wv', fs', ws', ys', N', rfl, hb', hf', hk'⟩
  refine ⟨r, rfl, ⟨_, _, _, _, _, _, _, _, _, _, _, h1.keep hk' (fun j q s => h3 j q s), hb', fun j e s => ?_, fun j e => .inl (h4 j e), fun j e => ?_, h6, h7⟩, hk'.mono h5⟩
  · rcases hf' j s with s | s | s
    · exact h3 j e s
    · exact hn j s (h4 j e)
    · have := h1.lt j e; omega
  · rcases hf' j e with e' | e' | e'
    · exact .inl (h5 j e')
    · exact .inr (.inl e')
    · exact .inr (.inr ⟨e', hb'.lt j e⟩)

theorem backQ {Fp : Nat → Prop} {pn pk m : Nat} {W : World} (h : LBq Fp pn pk m W) (hm : m ≤ 1000) :
    Calls Tryd.prog 21 #[.pointer (some ⟨pn, 0, none⟩)] W fun e W' => e = .returned (.bool true) ∧ Keep Fp W W' ∧ ∃ fv wv fs ws ys N, BookAt W' pk fv wv fs ws ys N ∧ ∀ j, BF pk fv wv fs ws j → Fp j := by
  obtain ⟨lv, mv, ls, ms, xs, fv, wv, fs, ws, zs, N, h1, h2, h3, h4, h5, h6, h7⟩ := h
  refine (loanBack_any pn lv mv ls ms xs W h1 (by omega) (fun x hx => by have := h7 x hx; omega)).mono ?_
  rintro e W' ⟨rfl, hk⟩
  exact ⟨rfl, hk.mono h4, _, _, _, _, _, _, h2.keep hk (fun j e s => h3 j s e), h5⟩

theorem LBq.start (w : World) : LBq (fun j => j = w.heap.size ∨ j = w.heap.size + 1) w.heap.size (w.heap.size + 1) 0 ((w.alloc (.cells #[.slice none 0 0, .slice none 0 0] 49)).alloc (.cells #[.slice none 0 0, .slice none 0 0, .slice none 0 0, .slice none 0 0, .int .i64 0] 52)) := by
  have hL := (LoanAt.new w).keep (S := fun _ => False) ((Keep.refl _ _).alloc (.cells #[.slice none 0 0, .slice none 0 0, .slice none 0 0, .slice none 0 0, .int .i64 0] 52)) (fun _ _ h => h)
  have hK := BookAt.new (w.alloc (.cells #[.slice none 0 0, .slice none 0 0] 49))
  have e1 : (w.alloc (.cells #[.slice none 0 0, .slice none 0 0] 49)).heap.size = w.heap.size + 1 := by simp
  rw [e1] at hK
  refine ⟨_, _, _, _, _, _, _, _, _, _, _, hL, hK, ?_, ?_, ?_, by simp, fun x hx => by cases hx⟩
  · rintro j (rfl | (e | e) | (e | e)) f
    · rcases f with f | (f | f) | (f | f) <;> first | (cases f; done) | omega
    all_goals cases e
  · rintro j (rfl | (e | e) | (e | e)) <;> first | (cases e; done) | omega
  · rintro j (rfl | (e | e) | (e | e)) <;> first | (cases e; done) | omega
end Go.Proofs.YtomkcmkbehcjnaaDoor

/- StanzaOwn: what is handed in stays as it was, spare room too; what is told is the caller's own. -/
namespace Go.Proofs.YtomkcmkbehcjnaaDoor.stanzaOwn
open Go.RowKit
open Go.Proofs.YtomkcmkbehcjnaaDoor

theorem szKeep {S : Nat → Prop} {w w' : World} {b : Nat} {K : Int} {I : Nat} {A B T : ByteArray} {la : Option Addr} {ln lc : Nat} {N : Int} {F : Nat} (h : SzAt w b K I A B T la ln lc N F) (k : Keep S w w') (hb : ¬ S b) : SzAt w' b K I A B T la ln lc N F :=
  ⟨k.cell h.c0 hb, k.cell h.c1 hb, k.cell h.c2 hb, k.cell h.c3 hb, k.cell h.c4 hb, k.cell h.c5 hb, k.cell h.c6 hb, k.cell h.c7 hb⟩
theorem srdKeep {S : Nat → Prop} {w w' : World} {la : Option Addr} {ln lc : Nat} {L : List ByteArray} (h : SRd w la ln lc L) (k : Keep S w w') (hs : ∀ ad, la = some ad → ¬ S ad.block) : SRd w' la ln lc L :=
  ⟨h.len, h.cap, h.most, h.nil, h.small, fun ad ha j hj => by
    have hc := h.cells ad ha j hj
    exact k.cell hc (by
      have : (ad.add j).block = ad.block := by unfold Addr.add; split <;> rfl
      rw [this]; exact hs ad ha)⟩
/-- A read stanza's list: its block is new. -/
theorem loNew {w : World} {B : Nat} {la : Option Addr} {ln lc : Nat} {l : List ByteArray} (h : LO w B la ln lc l) : ∀ ad, la = some ad → B ≤ ad.block ∧ ad.block < w.heap.size := by
  intro ad ha
  rcases h.2 with ⟨rfl, _⟩ | ⟨g, rfl, h1, h2, _⟩
  · cases ha
  · cases ha; exact ⟨h1, h2⟩
/-- What is written over: a list's cells, if there are any. -/
def Lu (g : Nat) (la : Option Addr) (ln : Nat) (w : World) : Prop := 0 < ln → la = some ⟨g, 0, none⟩ ∧ (∀ j, j < ln → ∃ s, w.cell? ⟨g, j, none⟩ = some (.string s)) ∧ ∀ j, w.frozen? ⟨g, j, none⟩ = false
theorem loLu {w : World} {B : Nat} {la : Option Addr} {ln lc : Nat} {l : List ByteArray} (h : LO w B la ln lc l) : ln ≤ 64 ∧ lc = ln ∧ ∃ g, Lu g la ln w ∧ (0 < ln → B ≤ g ∧ g < w.heap.size) := by
  rcases h.2 with ⟨rfl, rfl, rfl, _⟩ | ⟨g, rfl, h1, h2, rfl, h4, h5⟩
  · exact ⟨by omega, rfl, 0, fun q => absurd q (by omega), fun q => absurd q (by omega)⟩
  · exact ⟨h4, rfl, g, fun _ => ⟨rfl, fun j hj => ⟨_, h5.cell j hj⟩, h5.thaw⟩, fun _ => ⟨h1, h2⟩⟩
theorem luKeep {S : Nat → Prop} {g : Nat} {la : Option Addr} {ln : Nat} {w w' : World} (h : Lu g la ln w) (k : Keep S w w') (hg : 0 < ln → ¬ S g) (hl : 0 < ln → g < w.heap.size) : Lu g la ln w' := fun q => by
  obtain ⟨h1, h2, h3⟩ := h q
  refine ⟨h1, fun j hj => ?_, fun j => keep_thaw k (hl q) (hg q) (h3 j)⟩
  obtain ⟨s, hs⟩ := h2 j hj
  exact ⟨s, k.cell hs (hg q)⟩
theorem luSet {g : Nat} {la : Option Addr} {ln : Nat} {w : World} (h : Lu g la ln w) {i : Nat} (_hi : i < ln) (s : ByteArray) : Lu g la ln (w.setCell ⟨g, i, none⟩ (.string s)) := fun q => by
  obtain ⟨h1, h2, h3⟩ := h q
  refine ⟨h1, fun j hj => ?_, fun j => by rw [World.frozen?_setCell]; exact h3 j⟩
  obtain ⟨t, ht⟩ := h2 j hj
  by_cases e : i = j
  · subst e
    exact ⟨s, World.cell?_setCell_same _ _ _ ht⟩
  · exact ⟨t, by rw [World.cell?_setCell_other _ _ _ _ (fun e' => e (by injection e'))]; exact ht⟩
theorem twin2 (a : Option Addr) (n c : Nat) (xs : List Int) (w : World) (hR : Rd w a n c xs) :
    Calls Tryd.prog 15 #[.slice a n c, .int .i64 2000] w fun e w' => ∃ a' n' c', e = .returned (.slice a' n' c') ∧ n' ≤ 2000 ∧ Rd w' a' n' c' (xs.take 2000) ∧ Below w.heap.size w w' := by
  refine (twin_any a n c xs 2000 w hR (by omega)).mono ?_
  rintro e w1 ⟨v1, rfl, ho1, hb1⟩
  obtain ⟨a1, c1, rfl, hr1⟩ := Rd.ofOwn ho1 (hR.bytes.take 2000)
  exact ⟨a1, _, c1, rfl, by rw [List.length_take]; omega, hr1, hb1⟩
/-- Write, its list told as its own. -/
theorem writeO (K : Int) (I : Nat) (A B T : ByteArray) (la : Option Addr) (ln lc : Nat) (N : Int) (F : Nat) (L : List ByteArray) (w : World) (hL : Lays w) (hR : SRd w la ln lc L) (hA : A.size ≤ 1100) (hB : B.size ≤ 1100) (hT : T.size ≤ 1100) (hI : I < 18446744073709551616) (hN0 : -9223372036854775808 ≤ N) (hN1 : N ≤ 9223372036854775807) (hF : F < 18446744073709551616) :
    Calls Tryd.prog 9 #[.agg #[.int .i64 K, .int .u64 I, .string A, .string B, .string T, .slice la ln lc, .int .i64 N, .float .f64 F]] w fun e w' => ∃ v E x, e = .returned (.tuple #[v, .int .i64 E]) ∧ Ow w' v x ∧ (∀ k, v.ownBlock = some k → w.heap.size ≤ k ∧ k < w'.heap.size) ∧ x.length ≤ 100000 ∧ Below w.heap.size w w' := by
  by_cases hc : chk K A B T L N F = 0
  · refine (write_ok K I A B T la ln lc N F L w hL hR hI hN0 hN1 hF hc).mono ?_
    rintro e w' ⟨v, rfl, ho, hb⟩
    exact ⟨v, _, _, rfl, Ow.ofFrom ho (wform_bd K I A B T L N F), fun k hk => ho.lt k hk, by have := wform_len hI hN0 hN1 hc; omega, hb⟩
  · refine (write_bad K I A B T la ln lc N F L w hL hR (by omega) (by omega) (by omega) hc).mono ?_
    rintro e w' ⟨rfl, hb⟩
    exact ⟨.slice none 0 0, _, [], rfl, ⟨World.ownsRow_nil _ _ _ _, Bd.nil⟩, (fun k e => by cases e), Nat.zero_le _, hb⟩

theorem ownBlk {w : World} {base : Nat} {e : TypeId} {la : Option Addr} {n c m : Nat} {xs : List Value} (h : w.ownsRow base e 1 (.slice la n c) m xs) : ∀ ad, la = some ad → base ≤ ad.block ∧ ad.block < w.heap.size := by
  intro ad ha
  rcases h.2 with ⟨hv, _⟩ | ⟨g, cap, cur, hv, hg, hh, _⟩
  · rw [ha] at hv; cases hv
  · rw [ha] at hv; cases hv; exact ⟨hg, (Array.getElem?_eq_some_iff.1 hh).1⟩

/-- At the head of a round: B the place from which on all is the law's own; b the stanza's block. -/
structure Hd (w : World) (B b pn pk m : Nat) (K : Int) (I : Nat) (A2 B2 T2 : ByteArray) (la : Option Addr) (ln lc : Nat) (N : Int) (F : Nat) (L2 : List ByteArray) (W : World) : Prop where
  lb : LBq (fun j => j = pn ∨ j = pk ∨ (B ≤ j ∧ j < W.heap.size)) pn pk m W
  bel : Below w.heap.size w W
  sz : B ≤ W.heap.size
  s : SzAt W b K I A2 B2 T2 la ln lc N F
  l : SRd W la ln lc L2

set_option maxHeartbeats 12800000 in
set_option maxRecDepth 100000 in
theorem walkN (K : Int) (I : Nat) (A B T : ByteArray) (la : Option Addr) (ln lc : Nat) (N : Int) (F : Nat) (L : List ByteArray) (rb : Option Addr) (nr cr : Nat) (zs : List Int) (w : World) (hR : SRd w la ln lc L) (hRr : Rd w rb nr cr zs) (hL : Lays w) (hA : A.size ≤ 9223372036854775807) (hB : B.size ≤ 9223372036854775807) (hT : T.size ≤ 9223372036854775807) (hI : I < 18446744073709551616) (hN0 : -9223372036854775808 ≤ N) (hN1 : N ≤ 9223372036854775807) (hF : F < 18446744073709551616) :
    Calls Tryd.prog 6 #[.agg #[.int .i64 K, .int .u64 I, .string A, .string B, .string T, .slice la ln lc, .int .i64 N, .float .f64 F], .slice rb nr cr] w fun e w' => e = .returned (.bool true) ∧ Below w.heap.size w w' := by
  have hsf := run_store_float
  have hlb0 := LBq.start (w.alloc (.cells #[.int .i64 K, .int .u64 I, .string A, .string B, .string T, .slice la ln lc, .int .i64 N, .float .f64 F] 26))
  have hz0 := SzAt.new (K := K) (I := I) (A := A) (B := B) (T := T) (la := la) (ln := ln) (lc := lc) (N := N) (F := F) w
  have hb0 : Below (w.alloc (.cells #[.int .i64 K, .int .u64 I, .string A, .string B, .string T, .slice la ln lc, .int .i64 N, .float .f64 F] 26)).heap.size (w.alloc (.cells #[.int .i64 K, .int .u64 I, .string A, .string B, .string T, .slice la ln lc, .int .i64 N, .float .f64 F] 26)) (((w.alloc (.cells #[.int .i64 K, .int .u64 I, .string A, .string B, .string T, .slice la ln lc, .int .i64 N, .float .f64 F] 26)).alloc (.cells #[.slice none 0 0, .slice none 0 0] 49)).alloc (.cells #[.slice none 0 0, .slice none 0 0, .slice none 0 0, .slice none 0 0, .int .i64 0] 52)) := ((Below.refl _ _).alloc (Nat.le_refl _) _).alloc (by simp) _
  have hb1 : Below w.heap.size w (((w.alloc (.cells #[.int .i64 K, .int .u64 I, .string A, .string B, .string T, .slice la ln lc, .int .i64 N, .float .f64 F] 26)).alloc (.cells #[.slice none 0 0, .slice none 0 0] 49)).alloc (.cells #[.slice none 0 0, .slice none 0 0, .slice none 0 0, .slice none 0 0, .int .i64 0] 52)) := ((Below.refl _ _).alloc (Nat.le_refl _) _).trans (hb0.mono (by simp))
  have hsz1 : (((w.alloc (.cells #[.int .i64 K, .int .u64 I, .string A, .string B, .string T, .slice la ln lc, .int .i64 N, .float .f64 F] 26)).alloc (.cells #[.slice none 0 0, .slice none 0 0] 49)).alloc (.cells #[.slice none 0 0, .slice none 0 0, .slice none 0 0, .slice none 0 0, .int .i64 0] 52)).heap.size = w.heap.size + 1 + 1 + 1 := by simp
  have hz1 := hz0.carry hb0
  rw [World.size_alloc] at hlb0
  have cT := stwin_any K I A B T la ln lc N F L _ (hR.carry hb1) hA hB hT
  have hA' := cutS_size A 1100
  have hB' := cutS_size B 1100
  have hT' := cutS_size T 1100
  have hl' := cutL_len L 70 1100
  have hs' := cutL_size L 70 1100
  generalize cutS A 1100 = A2 at cT hA'
  generalize cutS B 1100 = B2 at cT hB'
  generalize cutS T 1100 = T2 at cT hT'
  generalize cutL L 70 1100 = L2 at cT hl' hs'
  have HTW : Hid (∀ (a : Option Addr) (n c : Nat) (w : World), SRd w a n c L2 → Calls Tryd.prog 8 #[.agg #[.int .i64 K, .int .u64 I, .string A2, .string B2, .string T2, .slice a n c, .int .i64 N, .float .f64 F]] w fun e w' => ∃ la' ln' lc', e = .returned (.agg #[.int .i64 K, .int .u64 I, .string A2, .string B2, .string T2, .slice la' ln' lc', .int .i64 N, .float .f64 F]) ∧ (∀ ad, la' = some ad → w.heap.size ≤ ad.block ∧ ad.block < w'.heap.size) ∧ SRd w' la' ln' lc' L2 ∧ Below w.heap.size w w') := fun a n c w h => by
    have h2 := stwin_any K I A2 B2 T2 a n c N F L2 w h (by omega) (by omega) (by omega)
    rw [cutS_id hA', cutS_id hB', cutS_id hT', cutL_id hl' hs'] at h2
    exact h2.mono fun _ _ ⟨a, n, c, he, ho, hr, hb⟩ => ⟨a, n, c, he, ownBlk ho, hr, hb⟩
  have HWR : Hid (∀ (a : Option Addr) (n c : Nat) (w : World), SRd w a n c L2 → Lays w → Calls Tryd.prog 9 #[.agg #[.int .i64 K, .int .u64 I, .string A2, .string B2, .string T2, .slice a n c, .int .i64 N, .float .f64 F]] w fun e w' => ∃ v E x, e = .returned (.tuple #[v, .int .i64 E]) ∧ Ow w' v x ∧ (∀ k, v.ownBlock = some k → w.heap.size ≤ k ∧ k < w'.heap.size) ∧ x.length ≤ 100000 ∧ Below w.heap.size w w') := fun a n c w h hL => writeO K I A2 B2 T2 a n c N F L2 w hL h hA' hB' hT' hI hN0 hN1 hF
  have HRD : Hid (∀ (a : Option Addr) (n c : Nat) (w : World), Rd w a n c (zs.take 2000) → n ≤ 2000 → Lays w → Calls Tryd.prog 16 #[.slice a n c] w (AnsR (rdSt (zs.take 2000)) w)) := fun a n c w h hn hL => read_any a n c _ w h (by omega) hL
  have HRR : Hid (∀ (a : Option Addr) (n c : Nat) (w : World), Rd w a n c (zs.take 2000) → n ≤ 2000 → Calls Tryd.prog 17 #[.slice a n c] w (AnsRR (rdSt (zs.take 2000)) w)) := fun a n c w h hn => refRead_any a n c _ w h (by omega)
  have cZ := fun w a n c (h : Rd w a n c zs) => twin2 a n c zs w h
  generalize rdSt (zs.take 2000) = p at HRD HRR
  generalize zs.take 2000 = Z at HRD HRR cZ
  obtain ⟨K3, I3, ⟨A3, B3, T3, L3, N3, F3⟩, E3⟩ := p
  clear hA' hB' hT' hl' hs' hA hB hT hR
  go_enter Tryd.func6, Tryd.ntmps6
  obtain ⟨q0, q1, q2, q3, q4, q5, q6, q7⟩ := id hz1
  go_wp2_with (go_at_call 8; refine cT.mono ?_; rintro e w1 ⟨la1, ln1, lc1, rfl, ho1, hs1, hbT⟩; clear q0 q1 q2 q3 q4 q5 q6 q7)
  have hn1 := ownBlk ho1
  rw [hsz1] at hn1
  have hs3 := hbT.size
  rw [hsz1] at hs3
  have hb3 : Below w1.heap.size w1 (w1.alloc (.cells #[.int .i64 K, .int .u64 I, .string A2, .string B2, .string T2, .slice la1 ln1 lc1, .int .i64 N, .float .f64 F] 26)) := (Below.refl _ _).alloc (Nat.le_refl _) _
  have hz3 := SzAt.new (K := K) (I := I) (A := A2) (B := B2) (T := T2) (la := la1) (ln := ln1) (lc := lc1) (N := N) (F := F) w1
  have hl3 := hs1.carry hb3
  have hlb3 := (hlb0.ext hbT).ext hb3
  have e1 := hb1.trans (hbT.mono hb1.size)
  have e3 := e1.trans (hb3.mono e1.size)
  have hsz3 : (w1.alloc (.cells #[.int .i64 K, .int .u64 I, .string A2, .string B2, .string T2, .slice la1 ln1 lc1, .int .i64 N, .float .f64 F] 26)).heap.size = w1.heap.size + 1 := by simp
  clear hlb0 hz0 hb0 hb1 hz1 cT ho1 hs1 hbT hb3 e1 hsz1
  generalize hb : w1.heap.size = b at hz3 hs3 hsz3 hn1 ⊢
  generalize w1.alloc _ = W3 at hz3 hl3 hlb3 e3 hsz3 ⊢
  generalize hpk : w.heap.size + 1 + 1 = pk at hlb3 ⊢
  generalize hpn : w.heap.size + 1 = pn at hlb3 ⊢
  have HP : Hid (w.heap.size ≤ pn ∧ w.heap.size ≤ pk ∧ pn < b ∧ pk < b) := ⟨by omega, by omega, by omega, by omega⟩
  have HLA : Hid (∀ ad, la1 = some ad → ad.block ≠ pn ∧ ad.block ≠ pk ∧ ad.block < b + 1) := fun ad ha => by
    have := hn1 ad ha; exact ⟨by omega, by omega, by omega⟩
  have h0 : Hd w (b + 1) b pn pk 0 K I A2 B2 T2 la1 ln1 lc1 N F L2 W3 := ⟨hlb3.mono (fun j _ q => q.elim .inl (fun q => .inr (.inl q))), e3, by omega, hz3, hl3⟩
  clear hn1 hs3 hsz3 hz3 hl3 hlb3 e3 hb hpk hpn
  go_loopw [8] (fun i wr => ∃ k : Nat, i = .int .i64 k ∧ k ≤ 2 ∧ Hd w (b + 1) b pn pk (2 * k) K I A2 B2 T2 la1 ln1 lc1 N F L2 wr) (fun i _ => 2 - (intOf i).toNat)
  case atStart => exact ⟨0, rfl, by omega, h0⟩
  case round =>
    clear h0
    obtain ⟨k, rfl, hk, h0⟩ := hrel
    by_cases hgo : k < 2
    · have hgz : (k : Int) < 2 := by omega
      obtain ⟨q0, q1, q2, q3, q4, q5, q6, q7⟩ := id h0.s
      go_wp2_with fail
      refine (HTW.out _ _ _ _ h0.l).mono ?_
      rintro e W1 ⟨la4, ln4, lc4, rfl, hn4, hs4, hb4⟩
      clear q0 q1 q2 q3 q4 q5 q6 q7
      have hln4 : ln4 = ln1 := hs4.len.symm.trans h0.l.len
      subst hln4
      have hb2 : Below W1.heap.size W1 (W1.alloc (.cells #[.int .i64 K, .int .u64 I, .string A2, .string B2, .string T2, .slice la4 ln4 lc4, .int .i64 N, .float .f64 F] 26)) := (Below.refl _ _).alloc (Nat.le_refl _) _
      have b02 := hb4.trans (hb2.mono hb4.size)
      have s2 := h0.s.carry b02
      have l2 := h0.l.carry b02
      have lb2 := h0.lb.ext b02
      have e2 := h0.bel.trans (b02.mono h0.bel.size)
      have t2 := SzAt.new (K := K) (I := I) (A := A2) (B := B2) (T := T2) (la := la4) (ln := ln4) (lc := lc4) (N := N) (F := F) W1
      have tl2 := hs4.carry hb2
      have HZ2 : Hid (b + 1 ≤ wr.heap.size ∧ wr.heap.size ≤ W1.heap.size ∧ W1.heap.size < (W1.alloc (.cells #[.int .i64 K, .int .u64 I, .string A2, .string B2, .string T2, .slice la4 ln4 lc4, .int .i64 N, .float .f64 F] 26)).heap.size) := ⟨h0.sz, hb4.size, by simp⟩
      obtain ⟨q0, q1, q2, q3, q4, q5, q6, q7⟩ := id t2
      clear hs4 hb2 b02 hb4
      go_wp2_with fail
      clear q0 q1 q2 q3 q4 q5 q6 q7
      generalize W1.alloc (.cells #[.int .i64 K, .int .u64 I, .string A2, .string B2, .string T2, .slice la4 ln4 lc4, .int .i64 N, .float .f64 F] 26) = W2 at s2 l2 lb2 e2 t2 tl2 HZ2 ⊢
      refine (HWR.out _ _ _ _ tl2 (hL.carry e2)).mono ?_
      rintro e W3 ⟨v5, E5, x5, rfl, ho5, hn5, hl5, hb3⟩
      have s3 := s2.carry hb3
      have l3 := l2.carry hb3
      have lb3 := lb2.ext hb3
      have e3 := e2.trans (hb3.mono e2.size)
      have t3 := t2.carry hb3
      have tl3 := tl2.carry hb3
      have HZ3 : Hid (W2.heap.size ≤ W3.heap.size) := hb3.size
      clear s2 l2 lb2 e2 t2 tl2 hb3
      go_wp2_with fail
      refine (takeQ lb3 v5 x5 ho5 (fun q hq h => by
        have h1 := hn5 q hq
        have h2 := HP.out
        have h3 := HZ2.out
        rcases h with h | h | h <;> omega) hl5).mono ?_
      rintro e W4 ⟨r6, rfl, lb4, k4⟩
      have nb : ¬ (b = pn ∨ b = pk ∨ (b + 1 ≤ b ∧ b < wr.heap.size)) := by have h2 := HP.out; omega
      have s4 := szKeep s3 k4 nb
      have l4 := srdKeep l3 k4 (fun ad ha h => by have h1 := HLA.out ad ha; rcases h with h | h | h <;> omega)
      have t4 := szKeep t3 k4 (by have h2 := HP.out; have h3 := HZ2.out; omega)
      have tl4 := srdKeep tl3 k4 (fun ad ha h => by have h1 := hn4 ad ha; have h2 := HP.out; have h3 := HZ2.out; rcases h with h | h | h <;> omega)
      have e4 : Below w.heap.size w W4 := e3.trans (k4.below e3.size (fun q h => by have h2 := HP.out; rcases h with h | h | h <;> omega))
      have HZ4 : Hid (W3.heap.size ≤ W4.heap.size) := k4.size
      obtain ⟨q0, q1, q2, q3, q4, q5, q6, q7⟩ := id s4
      obtain ⟨r0, r1, r2, r3, r4, r5, r6', r7⟩ := id t4
      clear s3 l3 lb3 e3 t3 tl3 k4 t4 ho5 hl5
      go_wp2_with fail
      clear q0 q1 q2 q3 q4 q5 q6 q7 r0 r1 r2 r3 r4 r5 r6' r7
      refine (same_true K I A2 B2 T2 la1 ln4 lc1 N F F la4 lc4 L2 _ l4 tl4 rfl).mono ?_
      rintro e W5 ⟨rfl, hb5⟩
      have s5 := s4.carry hb5
      have l5 := l4.carry hb5
      have lb5 := lb4.ext hb5
      have e5 := e4.trans (hb5.mono e4.size)
      have HZ5 : Hid (W4.heap.size ≤ W5.heap.size) := hb5.size
      clear s4 l4 tl4 lb4 e4 hb5
      go_wp2_with fail
      refine (cZ _ rb nr cr (hRr.carry (Nat.le_refl _) e5)).mono ?_
      rintro e W6 ⟨a6, n6, c6, rfl, hn6, hr6, hb6⟩
      have s6 := s5.carry hb6
      have l6 := l5.carry hb6
      have lb6 := lb5.ext hb6
      have e6 := e5.trans (hb6.mono e5.size)
      have HZ6 : Hid (W5.heap.size ≤ W6.heap.size) := hb6.size
      clear s5 l5 lb5 e5 hb6
      go_wp2_with fail
      refine (lendQ lb6 (by omega) a6 n6 c6 Z hr6 hn6).mono ?_
      rintro e W7 ⟨g7, cap7, rfl, hr7, lb7, k7⟩
      have s7 := szKeep s6 k7 (fun h => by
        have h2 := HP.out
        have h3 := HZ2.out
        rcases h with h | h | h
        · exact nb h
        · have h4 := hn5 _ h; omega
        · have h5 := HZ3.out; omega)
      have l7 := srdKeep l6 k7 (fun ad ha h => by
        have h1 := HLA.out ad ha
        have h3 := HZ2.out
        have h5 := HZ3.out
        rcases h with (h | h | h) | h | h
        · omega
        · omega
        · omega
        · have h4 := hn5 _ h; omega
        · omega)
      have e7 : Below w.heap.size w W7 := e6.trans (k7.below e6.size (fun q h => by
        have h2 := HP.out
        have h3 := HZ2.out
        have h5 := HZ3.out
        rcases h with (h | h | h) | h | h
        · omega
        · omega
        · omega
        · have h4 := hn5 _ h; omega
        · omega))
      have HZ7 : Hid (W6.heap.size ≤ W7.heap.size) := k7.size
      clear s6 l6 lb6 e6 k7 hr6
      go_wp2_with fail
      refine (HRD.out _ _ _ _ hr7 hn6 (hL.carry e7)).mono ?_
      rintro e W8 ⟨la8, ln8, lc8, rfl, hlo8, hb8⟩
      obtain ⟨h64, hlc, gu, hLu, hgu⟩ := loLu hlo8
      subst hlc
      have hb9 : Below W8.heap.size W8 (W8.alloc (.cells #[.int .i64 (K3 : Int), .int .u64 (I3 : Nat), .string A3, .string B3, .string T3, .slice la8 lc8 lc8, .int .i64 N3, .float .f64 F3] 26)) := (Below.refl _ _).alloc (Nat.le_refl _) _
      have b79 := hb8.trans (hb9.mono hb8.size)
      have s9 := s7.carry b79
      have l9 := l7.carry b79
      have lb9 := lb7.ext b79
      have e9 := e7.trans (b79.mono e7.size)
      have u9 := SzAt.new (K := (K3 : Int)) (I := I3) (A := A3) (B := B3) (T := T3) (la := la8) (ln := lc8) (lc := lc8) (N := N3) (F := F3) W8
      have Lu9 := luKeep hLu (Keep.ofBelow (S := fun _ => False) hb9) (fun _ q => q) (fun q => (hgu q).2)
      have HZ8 : Hid (W7.heap.size ≤ W8.heap.size ∧ W8.heap.size < (W8.alloc (.cells #[.int .i64 (K3 : Int), .int .u64 (I3 : Nat), .string A3, .string B3, .string T3, .slice la8 lc8 lc8, .int .i64 N3, .float .f64 F3] 26)).heap.size) := ⟨hb8.size, by simp⟩
      clear s7 l7 lb7 e7 hb8 hb9 b79 hlo8 hLu hr7
      go_wp2_with fail
      generalize W8.alloc (.cells #[.int .i64 (K3 : Int), .int .u64 (I3 : Nat), .string A3, .string B3, .string T3, .slice la8 lc8 lc8, .int .i64 N3, .float .f64 F3] 26) = W9 at s9 l9 lb9 e9 u9 Lu9 HZ8 ⊢
      refine (cZ _ rb nr cr (hRr.carry (Nat.le_refl _) e9)).mono ?_
      rintro e W10 ⟨a10, n10, c10, rfl, hn10, hr10, hb10⟩
      have s10 := s9.carry hb10
      have l10 := l9.carry hb10
      have lb10 := lb9.ext hb10
      have e10 := e9.trans (hb10.mono e9.size)
      have u10 := u9.carry hb10
      have Lu10 := luKeep Lu9 (Keep.ofBelow (S := fun _ => False) hb10) (fun _ q => q) (fun q => by have := hgu q; have := HZ8.out; omega)
      have HZ10 : Hid (W9.heap.size ≤ W10.heap.size) := hb10.size
      clear s9 l9 lb9 e9 u9 Lu9 hb10
      go_wp2_with fail
      refine (lendQ lb10 (by omega) a10 n10 c10 Z hr10 hn10).mono ?_
      rintro e W11 ⟨g11, cap11, rfl, hr11, lb11, k11⟩
      have HF7 : Hid (∀ j, ((((j = pn ∨ j = pk ∨ (b + 1 ≤ j ∧ j < wr.heap.size)) ∨ v5.ownBlock = some j ∨ (W3.heap.size ≤ j ∧ j < W4.heap.size)) ∨ (W6.heap.size ≤ j ∧ j < W7.heap.size))) → (j = pn ∨ j = pk ∨ b + 1 ≤ j) ∧ j < W7.heap.size) := fun j h => by
        have h2 := HP.out
        have h3 := HZ2.out
        have h5 := HZ3.out
        have h6 := HZ4.out
        have h7 := HZ5.out
        have h8 := HZ6.out
        have h9 := HZ7.out
        rcases h with ((h | h | h) | h | h) | h
        · omega
        · omega
        · omega
        · have h4 := hn5 _ h; omega
        · omega
        · omega
      have s11 := szKeep s10 k11 (fun h => by have h1 := HF7.out _ h; have h2 := HP.out; omega)
      have l11 := srdKeep l10 k11 (fun ad ha h => by have h1 := HF7.out _ h; have h2 := HLA.out ad ha; omega)
      have u11 := szKeep u10 k11 (fun h => by have h1 := HF7.out _ h; have h2 := HZ8.out; omega)
      have Lu11 := luKeep Lu10 k11 (fun q h => by have h1 := HF7.out _ h; have h2 := hgu q; omega) (fun q => by have h1 := hgu q; have h2 := HZ8.out; have h3 := HZ10.out; omega)
      have e11 : Below w.heap.size w W11 := e10.trans (k11.below e10.size (fun q h => by have h1 := HF7.out _ h; have h2 := HP.out; omega))
      have HZ11 : Hid (W10.heap.size ≤ W11.heap.size) := k11.size
      clear s10 l10 lb10 e10 u10 Lu10 k11 hr10
      go_wp2_with fail
      refine (HRD.out _ _ _ _ hr11 hn10 (hL.carry e11)).mono ?_
      rintro e W12 ⟨la12, ln12, lc12, rfl, hlo12, hb12⟩
      have hn12 := loNew hlo12
      have hl12 := hlo12.srd
      have hb13 : Below W12.heap.size W12 (W12.alloc (.cells #[.int .i64 (K3 : Int), .int .u64 (I3 : Nat), .string A3, .string B3, .string T3, .slice la12 ln12 lc12, .int .i64 N3, .float .f64 F3] 26)) := (Below.refl _ _).alloc (Nat.le_refl _) _
      have b13 := hb12.trans (hb13.mono hb12.size)
      have s13 := s11.carry b13
      have l13 := l11.carry b13
      have lb13 := lb11.ext b13
      have e13 := e11.trans (b13.mono e11.size)
      have u13 := u11.carry b13
      have v13 := SzAt.new (K := (K3 : Int)) (I := I3) (A := A3) (B := B3) (T := T3) (la := la12) (ln := ln12) (lc := lc12) (N := N3) (F := F3) W12
      have vl13 := hl12.carry hb13
      have Lu13 := luKeep Lu11 (Keep.ofBelow (S := fun _ => False) b13) (fun _ q => q) (fun q => by have h1 := hgu q; have h2 := HZ8.out; have h3 := HZ10.out; have h4 := HZ11.out; omega)
      have HZ12 : Hid (W11.heap.size ≤ W12.heap.size ∧ W12.heap.size < (W12.alloc (.cells #[.int .i64 (K3 : Int), .int .u64 (I3 : Nat), .string A3, .string B3, .string T3, .slice la12 ln12 lc12, .int .i64 N3, .float .f64 F3] 26)).heap.size) := ⟨hb12.size, by simp⟩
      clear s11 l11 lb11 e11 u11 Lu11 hb12 hb13 b13 hlo12 hl12 hr11
      go_wp2_with fail
      generalize hW13 : W12.alloc (.cells #[.int .i64 (K3 : Int), .int .u64 (I3 : Nat), .string A3, .string B3, .string T3, .slice la12 ln12 lc12, .int .i64 N3, .float .f64 F3] 26) = W13 at s13 l13 lb13 e13 u13 v13 vl13 Lu13 HZ12 ⊢
      clear hW13
      go_loopw [16] (fun i wr => ∃ j : Nat, i = .int .i64 j ∧ j ≤ lc8 ∧ Keep (fun q => 0 < lc8 ∧ q = gu) W13 wr ∧ Lu gu la8 lc8 wr) (fun i _ => lc8 - (intOf i).toNat)
      case atStart => exact ⟨0, rfl, by omega, Keep.refl _ _, Lu13⟩
      case round =>
        clear Lu13
        obtain ⟨j, rfl, hj, kj, Luj⟩ := hrel
        have uj := szKeep u13 kj (fun h => by have h1 := hgu h.1; have h2 := HZ8.out; omega)
        by_cases hgj : j < lc8
        · have hgji : (j : Int) < (lc8 : Int) := by omega
          obtain ⟨rfl, hcs, hfz⟩ := Luj (by omega)
          obtain ⟨sj, hcj⟩ := hcs j hgj
          have hfj := hfz j
          have q5 := uj.c5
          have HLj : Hid (Lu gu (some ⟨gu, 0, none⟩) lc8 wr) := Luj
          clear uj hcs hfz Luj
          go_wp2
          refine ⟨⟨j + 1, by go_num, by omega, kj.setCell (p := ⟨gu, j, none⟩) ⟨by omega, rfl⟩ _, luSet HLj.out hgj _⟩, by simp [intOf]; omega⟩
        · have hgji : ¬ (j : Int) < (lc8 : Int) := by omega
          have q5 := uj.c5
          have s14 := szKeep s13 kj (fun h => by have h1 := hgu h.1; have h2 := HZ2.out; have h3 := HZ3.out; have h4 := HZ4.out; have h5 := HZ5.out; have h6 := HZ6.out; have h7 := HZ7.out; omega)
          have l14 := srdKeep l13 kj (fun ad ha h => by have h1 := hgu h.1; have h2 := HZ2.out; have h3 := HZ3.out; have h4 := HZ4.out; have h5 := HZ5.out; have h6 := HZ6.out; have h7 := HZ7.out; have h8 := HLA.out ad ha; omega)
          have v14 := szKeep v13 kj (fun h => by have h1 := hgu h.1; have h2 := HZ8.out; have h3 := HZ10.out; have h4 := HZ11.out; have h5 := HZ12.out; omega)
          have vl14 := srdKeep vl13 kj (fun ad ha h => by have h1 := hgu h.1; have h2 := HZ8.out; have h3 := HZ10.out; have h4 := HZ11.out; have h5 := hn12 ad ha; omega)
          have lb14 := lb13.keep kj (fun q h hq => by
            have h1 := hgu hq.1
            have h2 := HZ8.out
            have h3 := HZ10.out
            rcases h with h | h
            · have h4 := HF7.out q h; omega
            · omega)
          have e14 : Below w.heap.size w wr := e13.trans (kj.below e13.size (fun q h => by have h1 := hgu h.1; have h2 := HZ2.out; have h3 := HZ3.out; have h4 := HZ4.out; have h5 := HZ5.out; have h6 := HZ6.out; have h7 := HZ7.out; have h8 := HP.out; omega))
          have HZ14 : Hid (W13.heap.size ≤ wr.heap.size) := kj.size
          clear uj Luj kj s13 l13 lb13 e13 u13 v13 vl13
          go_wp2_with fail
          clear q5
          refine (cZ _ rb nr cr (hRr.carry (Nat.le_refl _) e14)).mono ?_
          rintro e W15 ⟨a15, n15, c15, rfl, hn15, hr15, hb15⟩
          go_wp2_with fail
          refine (HRR.out _ _ _ _ hr15 hn15).mono ?_
          rintro e W16 ⟨la16, ln16, lc16, rfl, hl16, hb16⟩
          have hl16' : SRd W16 la16 ln16 lc16 L3 := hl16
          have hln16 : ln16 = ln12 := hl16'.len.symm.trans vl14.len
          subst hln16
          have hb17 : Below W16.heap.size W16 (W16.alloc (.cells #[.int .i64 (K3 : Int), .int .u64 (I3 : Nat), .string A3, .string B3, .string T3, .slice la16 ln16 lc16, .int .i64 N3, .float .f64 F3] 26)) := (Below.refl _ _).alloc (Nat.le_refl _) _
          have b16 := hb15.trans (hb16.mono hb15.size)
          have b17 := b16.trans (hb17.mono b16.size)
          have s17 := s14.carry b17
          have l17 := l14.carry b17
          have lb17 := lb14.ext b17
          have e17 := e14.trans (b17.mono e14.size)
          have vl17 := vl14.carry b17
          have wl17 := hl16'.carry hb17
          obtain ⟨q0, q1, q2, q3, q4, q5, q6, q7⟩ := v14.carry b17
          obtain ⟨r0, r1, r2, r3, r4, r5, r6', r7⟩ := SzAt.new (K := (K3 : Int)) (I := I3) (A := A3) (B := B3) (T := T3) (la := la16) (ln := ln16) (lc := lc16) (N := N3) (F := F3) W16
          have HZ17 : Hid (wr.heap.size ≤ (W16.alloc (.cells #[.int .i64 (K3 : Int), .int .u64 (I3 : Nat), .string A3, .string B3, .string T3, .slice la16 ln16 lc16, .int .i64 N3, .float .f64 F3] 26)).heap.size) := b17.size
          clear s14 l14 lb14 e14 v14 vl14 hb15 hb16 hb17 b16 b17 hr15 hl16 hl16'
          go_wp2_with fail
          clear q0 q1 q2 q3 q4 q5 q6 q7 r0 r1 r2 r3 r4 r5 r6' r7
          generalize W16.alloc (.cells #[.int .i64 (K3 : Int), .int .u64 (I3 : Nat), .string A3, .string B3, .string T3, .slice la16 ln16 lc16, .int .i64 N3, .float .f64 F3] 26) = W17 at s17 l17 lb17 e17 vl17 wl17 HZ17 ⊢
          refine (same_true (K3 : Int) I3 A3 B3 T3 la12 ln16 lc12 N3 F3 F3 la16 lc16 L3 _ vl17 wl17 rfl).mono ?_
          rintro e W18 ⟨rfl, hb18⟩
          have HZ18 : Hid (W17.heap.size ≤ W18.heap.size) := hb18.size
          have HR18 : Hid (Hd w (b + 1) b pn pk (2 * (k + 1)) K I A2 B2 T2 la1 ln4 lc1 N F L2 W18) := by
            refine ⟨?_, e17.trans (hb18.mono e17.size), ?_, s17.carry hb18, l17.carry hb18⟩
            · have h2k : 2 * (k + 1) = 2 * k + 1 + 1 := by omega
              rw [h2k]
              refine (lb17.ext hb18).mono (fun q hq h => ?_)
              rcases h with h | h
              · have h4 := HF7.out q h; omega
              · have h2 := HZ2.out
                have h3 := HZ3.out
                have h4 := HZ4.out
                have h5 := HZ5.out
                have h6 := HZ6.out
                have h7 := HZ7.out
                have h8 := HZ8.out
                have h10 := HZ10.out
                omega
            · have h2 := HZ2.out
              have h3 := HZ3.out
              have h4 := HZ4.out
              have h5 := HZ5.out
              have h6 := HZ6.out
              have h7 := HZ7.out
              have h8 := HZ8.out
              have h10 := HZ10.out
              have h11 := HZ11.out
              have h12 := HZ12.out
              have h14 := HZ14.out
              have h17 := HZ17.out
              have h18 := HZ18.out
              omega
          clear s17 l17 lb17 e17 vl17 wl17 hb18 HF7 HP HLA
          go_wp2_with fail
          refine ⟨⟨k + 1, by go_num, by omega, HR18.out⟩, by simp [intOf]; omega⟩
    · have hgz : ¬ (k : Int) < 2 := by omega
      go_wp2_with (first
        | (go_at_call 21; refine (backQ h0.lb (by omega)).mono ?_; rintro e wa ⟨rfl, k1, fv, wv, fs, ws, ys, M, hbk, hbf⟩; have e1 : Below w.heap.size w wa := h0.bel.trans (k1.below h0.bel.size (fun q h => by have h2 := HP.out; rcases h with h | h | h <;> omega)))
        | (go_at_call 22; refine (bookClose_any pk M fv wv fs ws ys _ hbk).mono ?_; rintro e wb ⟨rfl, k2⟩; have e2 : Below w.heap.size w wb := e1.trans (k2.below e1.size (fun q h => by have h1 := hbf q h; have h2 := HP.out; rcases h1 with h1 | h1 | h1 <;> omega)))
        | (go_at_call 14; refine (wakes_any _ (hL.carry e2)).mono ?_; rintro e wc ⟨rfl, hb3⟩))
      go_ret
      exact ⟨rfl, e2.trans (hb3.mono e2.size)⟩
end Go.Proofs.YtomkcmkbehcjnaaDoor.stanzaOwn
