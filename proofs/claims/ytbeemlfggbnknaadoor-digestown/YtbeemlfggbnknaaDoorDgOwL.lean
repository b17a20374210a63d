/- DigestOwn's walk: a loan, step by step. -/
import Derived.Test.YtbeemlfggbnknaaDoorOwnM
import Derived.Test.YtbeemlfggbnknaaDoorDgHi
namespace Go.Proofs.YtbeemlfggbnknaaDoor
open Go.RowKit

/-- A loan from B on, at most m lists lent. -/
def Ln (B p m : Nat) (W : World) : Prop :=
  ∃ (lv mv : Value) (ls ms : List Value) (xs : List (List Int)), LoanAt W p lv mv ls ms xs ∧ (∀ j, LF p lv mv ls ms j → B ≤ j) ∧ ls.length ≤ m ∧ (∀ x ∈ xs, x.length ≤ 3000)
/-- The same, the list lent last told. -/
def Ln1 (B p m g n cap : Nat) (ys : List Int) (W : World) : Prop :=
  ∃ (lv mv : Value) (ls ms : List Value) (xs : List (List Int)), LoanAt W p lv mv (ls ++ [.slice (some ⟨g, 0, none⟩) (n + 5) cap]) ms (xs ++ [ys ++ marks5]) ∧ (∀ j, LF p lv mv (ls ++ [.slice (some ⟨g, 0, none⟩) (n + 5) cap]) ms j → B ≤ j) ∧ ls.length + 1 ≤ m ∧ (∀ x ∈ xs ++ [ys ++ marks5], x.length ≤ 3000) ∧ ys.length = n

theorem Ln.ext {B p m : Nat} {W W' : World} (h : Ln B p m W) (hx : Below W.heap.size W W') : Ln B p m W' := by
  obtain ⟨lv, mv, ls, ms, xs, h1, h4, h6, h7⟩ := h
  exact ⟨lv, mv, ls, ms, xs, h1.keep (Keep.ofBelow (S := fun _ => False) hx) (fun _ _ h => h), h4, h6, h7⟩
theorem Ln1.ext {B p m g n cap : Nat} {ys : List Int} {W W' : World} (h : Ln1 B p m g n cap ys W) (hx : Below W.heap.size W W') : Ln1 B p m g n cap ys W' := by
  obtain ⟨lv, mv, ls, ms, xs, h1, h4, h6, h7⟩ := h
  exact ⟨lv, mv, ls, ms, xs, h1.keep (Keep.ofBelow (S := fun _ => False) hx) (fun _ _ h => h), h4, h6, h7⟩
theorem Ln1.ln {B p m g n cap : Nat} {ys : List Int} {W : World} (h : Ln1 B p m g n cap ys W) : Ln B p m W := by
  obtain ⟨lv, mv, ls, ms, xs, h1, h4, h6, h7, _⟩ := h
  exact ⟨lv, mv, _, ms, _, h1, h4, by rw [List.length_append]; exact h6, h7⟩
theorem marks5_len : marks5.length = 5 := rfl
theorem ow_lent {W : World} {g n cap : Nat} {ys : List Int} (h : Ow W (.slice (some ⟨g, 0, none⟩) (n + 5) cap) (ys ++ marks5)) (hl : ys.length = n) : Rd W (some ⟨g, 0, none⟩) n cap ys := by
  obtain ⟨a, c, e, hr⟩ := h.rd
  simp only [Value.slice.injEq] at e
  obtain ⟨rfl, _, rfl⟩ := e
  have := hr.takeK (k := n) (by rw [List.length_append, hl]; omega)
  rwa [List.take_append_of_le_length (by omega), List.take_of_length_le (by omega)] at this

theorem lendA {B p m : Nat} {W : World} (h : Ln B p m W) (hB : B ≤ W.heap.size) (hm : m ≤ 1000) (a : Option Addr) (n c : Nat) (ys : List Int) (hR : Rd W a n c ys) (hn : n ≤ 2000) :
    Calls Tryd.prog 20 #[.pointer (some ⟨p, 0, none⟩), .slice a n c] W fun e W' => ∃ g cap, e = .returned (.slice (some ⟨g, 0, none⟩) n cap) ∧ Rd W' (some ⟨g, 0, none⟩) n cap ys ∧ Ln1 B p (m + 1) g n cap ys W' ∧ Below B W W' := by
  obtain ⟨lv, mv, ls, ms, xs, h1, h4, h6, h7⟩ := h
  have hml : ms.length = ls.length := h1.two.g.ows.len.trans h1.two.f.ows.len.symm
  have hyl := hR.len
  refine (loanBytes_any p lv mv ls ms xs a n c ys W h1 hR (by omega) (by omega) (by omega)).mono ?_
  rintro e W' ⟨g, cap, lv', mv', ml, rfl, L', hr', hg, hf, hk⟩
  refine ⟨g, cap, rfl, hr', ⟨_, _, _, _, _, L', fun j e => ?_, by omega, fun x hx => ?_, hyl⟩, hk.below hB h4⟩
  · rcases hf j e with e | e
    · exact h4 j e
    · omega
  · rcases List.mem_append.1 hx with hx | hx
    · exact h7 x hx
    · simp at hx
      rw [hx, List.length_append, marks5_len]
      omega
theorem lendB {B p m g1 n1 cap1 : Nat} {zs : List Int} {W : World} (h : Ln1 B p m g1 n1 cap1 zs W) (hB : B ≤ W.heap.size) (hm : m ≤ 1000) (a : Option Addr) (n c : Nat) (ys : List Int) (hR : Rd W a n c ys) (hn : n ≤ 2000) :
    Calls Tryd.prog 20 #[.pointer (some ⟨p, 0, none⟩), .slice a n c] W fun e W' => ∃ g cap, e = .returned (.slice (some ⟨g, 0, none⟩) n cap) ∧ Rd W' (some ⟨g, 0, none⟩) n cap ys ∧ Rd W' (some ⟨g1, 0, none⟩) n1 cap1 zs ∧ Ln B p (m + 1) W' ∧ Below B W W' := by
  obtain ⟨lv, mv, ls, ms, xs, h1, h4, h6, h7, hzl⟩ := h
  have hml : ms.length = (ls ++ [Value.slice (some ⟨g1, 0, none⟩) (n1 + 5) cap1]).length := h1.two.g.ows.len.trans h1.two.f.ows.len.symm
  have hxl := h1.two.f.ows.len
  have hyl := hR.len
  rw [List.length_append] at hml
  simp at hml
  refine (loanBytes_any p lv mv _ ms _ a n c ys W h1 hR (by omega) (by rw [List.length_append]; simp; omega) (by omega)).mono ?_
  rintro e W' ⟨g, cap, lv', mv', ml, rfl, L', hr', hg, hf, hk⟩
  refine ⟨g, cap, rfl, hr', ?_, ⟨_, _, _, _, _, L', fun j e => ?_, by simp; omega, fun x hx => ?_⟩, hk.below hB h4⟩
  · have hl : ls.length = xs.length := by simpa using hxl
    have hget := L'.two.f.ows.get (i := ls.length) (v := .slice (some ⟨g1, 0, none⟩) (n1 + 5) cap1) (by simp)
    have hx : ((xs ++ [zs ++ marks5]) ++ [ys ++ marks5]).getD ls.length [] = zs ++ marks5 := by rw [hl]; simp [List.getD]
    rw [hx] at hget
    exact ow_lent hget hzl
  · rcases hf j e with e | e
    · exact h4 j e
    · omega
  · rcases List.mem_append.1 hx with hx | hx
    · exact h7 x hx
    · simp at hx
      rw [hx, List.length_append, marks5_len]
      omega
theorem backL {B p m : Nat} {W : World} (h : Ln B p m W) (hB : B ≤ W.heap.size) (hm : m ≤ 1000) :
    Calls Tryd.prog 21 #[.pointer (some ⟨p, 0, none⟩)] W fun e W' => e = .returned (.bool true) ∧ Below B W W' := by
  obtain ⟨lv, mv, ls, ms, xs, h1, h4, h6, h7⟩ := h
  refine (loanBack_any p lv mv ls ms xs W h1 (by omega) (fun x hx => by have := h7 x hx; omega)).mono ?_
  rintro e W' ⟨rfl, hk⟩
  exact ⟨rfl, hk.below hB h4⟩

set_option maxRecDepth 100000 in
set_option maxHeartbeats 1600000 in
theorem digestOwn_any (a : Option Addr) (n c : Nat) (xs : List Int) (a' : Option Addr) (n' c' : Nat) (ys : List Int) (w : World) (hR : Rd w a n c xs) (hR' : Rd w a' n' c' ys) (hK : Kt w) :
    Calls Tryd.prog 8 #[.slice a n c, .slice a' n' c'] w fun e w' => e = .returned (.bool true) ∧ Below w.heap.size w w' := by
  obtain ⟨X, HX⟩ : ∃ X, Hid (xs.take 1000 = X) := ⟨_, rfl⟩
  obtain ⟨Y, HY⟩ : ∃ Y, Hid (ys.take 1000 = Y) := ⟨_, rfl⟩
  have hl0 : Ln w.heap.size w.heap.size 0 (w.alloc (.cells #[.slice none 0 0, .slice none 0 0] 41)) := by
    refine ⟨_, _, _, _, _, LoanAt.new w, fun j h => ?_, Nat.le_refl _, fun x hx => by cases hx⟩
    rcases h with rfl | h
    · exact Nat.le_refl _
    · rcases h with h | h <;> rcases h with h | h <;> cases h
  have e0 : Below w.heap.size w (w.alloc (.cells #[.slice none 0 0, .slice none 0 0] 41)) := (Below.refl _ _).alloc (Nat.le_refl _) _
  go_enter Tryd.func8, Tryd.ntmps8
  have l0 := hl0
  clear hl0
  go_wp2_with fail
  refine (fewR a n c xs _ (hR.carry (Nat.le_refl _) e0)).mono ?_; rw [HX.out]; rintro e u1 ⟨b1, m1, d1, rfl, q1, r1, f1⟩
  have l1 := l0.ext f1
  have e1 := e0.trans (f1.mono e0.size)
  go_wp2_with fail
  refine (lendA l1 e1.size (by omega) b1 m1 d1 X r1 (by omega)).mono ?_; rintro e u2 ⟨g2, cp2, rfl, s2, l2, f2⟩
  have e2 := e1.trans f2
  go_wp2_with fail
  refine (sha_any _ m1 cp2 X _ s2 (by omega) (hK.below (Nat.le_refl _) e2)).mono ?_; rintro e u3 ⟨rfl, f3⟩
  have l3 := l2.ln.ext f3
  have e3 := e2.trans (f3.mono e2.size)
  go_wp2_with fail
  refine (fewR a n c xs _ (hR.carry (Nat.le_refl _) e3)).mono ?_; rw [HX.out]; rintro e u4 ⟨b4, m4, d4, rfl, q4, r4, f4⟩
  have l4 := l3.ext f4
  have e4 := e3.trans (f4.mono e3.size)
  go_wp2_with fail
  refine (lendA l4 e4.size (by omega) b4 m4 d4 X r4 (by omega)).mono ?_; rintro e u5 ⟨g5, cp5, rfl, s5, l5, f5⟩
  have e5 := e4.trans f5
  go_wp2_with fail
  refine (fewR a' n' c' ys _ (hR'.carry (Nat.le_refl _) e5)).mono ?_; rw [HY.out]; rintro e u6 ⟨b6, m6, d6, rfl, q6, r6, f6⟩
  have l6 := l5.ext f6
  have e6 := e5.trans (f6.mono e5.size)
  go_wp2_with fail
  refine (lendB l6 e6.size (by omega) b6 m6 d6 Y r6 (by omega)).mono ?_; rintro e u7 ⟨g7, cp7, rfl, s7, z7, l7, f7⟩
  have e7 := e6.trans f7
  go_wp2_with fail
  refine (hmac_any _ m4 cp5 X _ m6 cp7 Y _ z7 (by omega) s7 (by omega) (hK.below (Nat.le_refl _) e7)).mono ?_; rintro e u8 ⟨rfl, f8⟩
  have l8 := l7.ext f8
  have e8 := e7.trans (f8.mono e7.size)
  go_wp2_with fail
  refine (fewR a n c xs _ (hR.carry (Nat.le_refl _) e8)).mono ?_; rw [HX.out]; rintro e u9 ⟨b9, m9, d9, rfl, q9, r9, f9⟩
  have l9 := l8.ext f9
  have e9 := e8.trans (f9.mono e8.size)
  go_wp2_with fail
  refine (lendA l9 e9.size (by omega) b9 m9 d9 X r9 (by omega)).mono ?_; rintro e u10 ⟨g10, cp10, rfl, s10, l10, f10⟩
  have e10 := e9.trans f10
  go_wp2_with fail
  refine (fewR a' n' c' ys _ (hR'.carry (Nat.le_refl _) e10)).mono ?_; rw [HY.out]; rintro e u11 ⟨b11, m11, d11, rfl, q11, r11, f11⟩
  have l11 := l10.ext f11
  have e11 := e10.trans (f11.mono e10.size)
  go_wp2_with fail
  refine (lendB l11 e11.size (by omega) b11 m11 d11 Y r11 (by omega)).mono ?_; rintro e u12 ⟨g12, cp12, rfl, s12, z12, l12, f12⟩
  have e12 := e11.trans f12
  go_wp2_with fail
  refine (hi_any _ m9 cp10 X _ m11 cp12 Y 3 _ z12 (by omega) s12 (by omega) (by omega) (by omega) (hK.below (Nat.le_refl _) e12)).mono ?_; rintro e u13 ⟨rfl, f13⟩
  have l13 := l12.ext f13
  have e13 := e12.trans (f13.mono e12.size)
  go_wp2_with fail
  refine (fewR a n c xs _ (hR.carry (Nat.le_refl _) e13)).mono ?_; rw [HX.out]; rintro e u14 ⟨b14, m14, d14, rfl, q14, r14, f14⟩
  have l14 := l13.ext f14
  have e14 := e13.trans (f14.mono e13.size)
  go_wp2_with fail
  refine (lendA l14 e14.size (by omega) b14 m14 d14 X r14 (by omega)).mono ?_; rintro e u15 ⟨g15, cp15, rfl, s15, l15, f15⟩
  have e15 := e14.trans f15
  go_wp2_with fail
  refine (fewR a' n' c' ys _ (hR'.carry (Nat.le_refl _) e15)).mono ?_; rw [HY.out]; rintro e u16 ⟨b16, m16, d16, rfl, q16, r16, f16⟩
  have l16 := l15.ext f16
  have e16 := e15.trans (f16.mono e15.size)
  go_wp2_with fail
  refine (lendB l16 e16.size (by omega) b16 m16 d16 Y r16 (by omega)).mono ?_; rintro e u17 ⟨g17, cp17, rfl, s17, z17, l17, f17⟩
  have e17 := e16.trans f17
  go_wp2_with fail
  refine (equal_any _ m14 cp15 X _ m16 cp17 Y _ z17 s17).mono ?_; rintro e u18 ⟨rfl, dd, h18⟩
  have f18 : Below u17.heap.size u17 u18 := by rw [h18]; exact below_drewN (Below.refl _ _) _
  clear h18
  have l18 := l17.ext f18
  have e18 := e17.trans (f18.mono e17.size)
  go_wp2_with fail
  refine (backL l18 e18.size (by omega)).mono ?_; rintro e u19 ⟨rfl, f19⟩
  have e19 := e18.trans f19
  go_wp2_with fail
  refine (wakes_any _ (hK.below (Nat.le_refl _) e19)).mono ?_; rintro e u20 ⟨rfl, f20⟩
  go_wp2
  go_ret
  exact ⟨rfl, e19.trans (f20.mono e19.size)⟩

end Go.Proofs.YtbeemlfggbnknaaDoor
