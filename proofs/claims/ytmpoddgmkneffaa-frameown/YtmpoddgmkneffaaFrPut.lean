/- Put, and the document's. -/
import Derived.Test.YtmpoddgmkneffaaFrSame
namespace Go.Proofs.Ytmpoddgmkneffaa
open Go.RowKit Go.Shelf

theorem rd_one (w : World) (x : Int) (h0 : 0 ≤ x) (h1 : x ≤ 255) : Rd (w.alloc (.cells #[.int .u8 x] 5)) (some ⟨w.heap.size, 0, none⟩) 1 1 [x] := by
  refine ⟨rfl, Nat.le_refl _, by unfold maxLen; omega, (fun h => by cases h), (fun y hy => by simp at hy; omega), fun ad had j hj => ?_⟩
  cases had
  rw [add_flat]
  match j, hj with
  | 0, _ => simp

/-- 'append(s, x)' of one byte, s the call's own: in the world ahead of the byte's block. -/
theorem wp_app1 {w : World} {ops : Array Oper} {rest : List Oper} {o : Oper} {a : Act} {Q : Exit → Act → World → Prop} (hgd : o.guard = none) (s x : Operand)
    (ho : o.op = .call { callee := .builtin .append, args := #[s, x], argTypes := #[31, 31] })
    (base : Nat) (v : Value) (n : Nat) (xs : List Int) (hs : a.eval s = v) (hown : w.ownsRow base 5 1 v n (bc xs))
    (y : Int) (hx : a.eval x = .slice (some ⟨w.heap.size, 0, none⟩) 1 1) (h0 : 0 ≤ y) (h1 : y ≤ 255) (hb : n + 1 ≤ 1000000000) (hbase : base ≤ w.heap.size)
    (h : ∀ v' w', w'.ownsRow base 5 1 v' (n + 1) (bc (xs ++ [y])) → Below base w w' → (∃ g cap, v' = .slice (some ⟨g, 0, none⟩) (n + 1) cap) → wpList Try.prog ops Q rest (a.put o.dst v') w') : wpList Try.prog ops Q (o :: rest) a (w.alloc (.cells #[.int .u8 y] 5)) := by
  refine wp_app hgd s x ho base v n xs hs (hown.alloc _) _ 1 1 [y] hx (rd_one w y h0 h1) hb (by simp; omega) ?_
  intro v' w' h2 h3 _
  refine h v' w' h2 (((Below.refl _ _).alloc hbase _).grown h3 (by simp; omega) (fun k e => (hown.lt k e).1)) ?_
  obtain ⟨g, cap, hv⟩ := ownsRow_succ h2
  exact ⟨g, cap, hv⟩

theorem put_form {xs ys : List Int} {n' : Nat} (hl : ys.length = n') (hn : n' ≤ 10000000) : xs ++ [(n' : Int) / 16777216] ++ [(n' : Int) / 65536] ++ [(n' : Int) / 256 % 256] ++ [(n' : Int) % 256] ++ ys = xs ++ frm ys := by
  subst hl
  have e1 : ((ys.length / 16777216 % 256 : Nat) : Int) = (ys.length : Int) / 16777216 := by omega
  have e2 : ((ys.length / 65536 % 256 : Nat) : Int) = (ys.length : Int) / 65536 := by omega
  have e3 : ((ys.length / 256 % 256 : Nat) : Int) = (ys.length : Int) / 256 % 256 := by omega
  have e4 : ((ys.length % 256 : Nat) : Int) = (ys.length : Int) % 256 := by omega
  unfold frm be32
  rw [e1, e2, e3, e4]
  simp

theorem rd_four (w : World) (x y z u : Int) (h0 : 0 ≤ x ∧ x ≤ 255) (h1 : 0 ≤ y ∧ y ≤ 255) (h2 : 0 ≤ z ∧ z ≤ 255) (h3 : 0 ≤ u ∧ u ≤ 255) : Rd (w.alloc (.cells #[.int .u8 x, .int .u8 y, .int .u8 z, .int .u8 u] 5)) (some ⟨w.heap.size, 0, none⟩) 4 4 [x, y, z, u] := by
  refine ⟨rfl, Nat.le_refl _, by unfold maxLen; omega, (fun h => by cases h), (fun q hq => by simp at hq; omega), fun ad had j hj => ?_⟩
  cases had
  rw [add_flat]
  match j, hj with
  | 0, _ => simp
  | 1, _ => simp
  | 2, _ => simp
  | 3, _ => simp

set_option maxHeartbeats 1600000 in
theorem put_any (a : Option Addr) (n c : Nat) (xs : List Int) (a' : Option Addr) (n' c' : Nat) (ys : List Int) (w : World) (hX : Rd w a n c xs) (hY : Rd w a' n' c' ys) (hn : n ≤ 10000000) (hn' : n' ≤ 10000000) :
    Calls Try.prog 17 #[.slice a n c, .slice a' n' c'] w fun e w' => ∃ v, e = .returned v ∧ w'.ownsRow w.heap.size 5 1 v (xs ++ frm ys).length (bc (xs ++ frm ys)) ∧ Below w.heap.size w w' := by
  obtain ⟨i0, hi, hz0, hz1, hz2⟩ := info_parts Try.info5
  have hl := hX.len
  have hl' := hY.len
  have tok : True := trivial
  go_enter Try.func17, Try.ntmps17
  go_wp2_with (first
    | (at_make; refine wpList_make_own _ rfl _ _ 31 rfl w.heap.size 5 i0 (.int .u8 0) 1 Try.underlying31 hi hz0 hz1 .i64 .i64 _ (n + 4 + n') rfl rfl (by omega) (by rw [hz2]; omega) (by unfold maxLen; omega) (Nat.le_refl _) ?_; intro w1 hown1 hgr1; have hb1 : Below w.heap.size w w1 := ⟨hgr1.os, hgr1.tape, hgr1.output, hgr1.size, fun k hk => hgr1.block k hk (by simp)⟩)
    | (at_builtin; clear tok; refine wp_app rfl _ _ rfl w.heap.size _ 0 [] rfl hown1 a n c xs rfl (hX.carry (Nat.le_refl _) hb1) (by omega) hb1.size ?_; intro v2 w2 hown2 hgr2 _; have hb2 : Below w.heap.size w w2 := hb1.grown hgr2 hb1.size (fun k e => (hown1.lt k e).1)))
  rw [Nat.zero_add, List.nil_append] at hown2
  clear hown1 hgr1 hgr2 hb1
  refine wp_loop_rounds 5 ?_
  rw [rounds_succ]
  go_wp2_with (at_builtin; refine wp_app1 rfl _ _ rfl w.heap.size _ _ _ rfl hown2 _ rfl (by omega) (by omega) (by omega) hb2.size ?_; intro v3 w3 hown3 hbb3 hv3; obtain ⟨g3, cap3, rfl⟩ := hv3)
  have hb3 := hb2.trans hbb3
  clear hown2 hb2 hbb3
  rw [rounds_succ]
  go_wp2_with (at_builtin; refine wp_app1 rfl _ _ rfl w.heap.size _ _ _ rfl hown3 _ rfl (by omega) (by omega) (by omega) hb3.size ?_; intro v4 w4 hown4 hbb4 hv4; obtain ⟨g4, cap4, rfl⟩ := hv4)
  have hb4 := hb3.trans hbb4
  clear hown3 hb3 hbb4
  rw [rounds_succ]
  go_wp2_with (at_builtin; refine wp_app1 rfl _ _ rfl w.heap.size _ _ _ rfl hown4 _ rfl (by omega) (by omega) (by omega) hb4.size ?_; intro v5 w5 hown5 hbb5 hv5; obtain ⟨g5, cap5, rfl⟩ := hv5)
  have hb5 := hb4.trans hbb5
  clear hown4 hb4 hbb5
  rw [rounds_succ]
  go_wp2_with (at_builtin; refine wp_app1 rfl _ _ rfl w.heap.size _ _ _ rfl hown5 _ rfl (by omega) (by omega) (by omega) hb5.size ?_; intro v6 w6 hown6 hbb6 hv6; obtain ⟨g6, cap6, rfl⟩ := hv6)
  have hb6 := hb5.trans hbb6
  clear hown5 hb5 hbb6
  rw [rounds_succ]
  go_wp2_with (at_builtin; refine wp_app rfl _ _ rfl w.heap.size _ _ _ rfl hown6 a' n' c' ys rfl (hY.carry (Nat.le_refl _) hb6) (by omega) hb6.size ?_; intro v7 w7 hown7 hgr7 _; have hb7 : Below w.heap.size w w7 := hb6.grown hgr7 hb6.size (fun k e => (hown6.lt k e).1))
  go_ret
  have hf := put_form (xs := xs) hl' hn'
  have hlen : (xs ++ frm ys).length = n + 1 + 1 + 1 + 1 + n' := by rw [List.length_append, frm_len]; omega
  refine ⟨_, rfl, ?_, hb7⟩
  rw [hlen, ← hf]
  exact hown7

theorem put_four {xs ys : List Int} {n' : Nat} (hl : ys.length = n') (hn : n' ≤ 10000000) : xs ++ [(n' : Int) / 16777216, (n' : Int) / 65536, (n' : Int) / 256 % 256, (n' : Int) % 256] ++ ys = xs ++ frm ys := by
  rw [← put_form hl hn]; simp

set_option maxHeartbeats 1600000 in
theorem refPut_any (a : Option Addr) (n c : Nat) (xs : List Int) (a' : Option Addr) (n' c' : Nat) (ys : List Int) (w : World) (hX : Rd w a n c xs) (hY : Rd w a' n' c' ys) (hn : n ≤ 10000000) (hn' : n' ≤ 10000000) :
    Calls Try.prog 18 #[.slice a n c, .slice a' n' c'] w fun e w' => ∃ v, e = .returned v ∧ w'.ownsRow w.heap.size 5 1 v (xs ++ frm ys).length (bc (xs ++ frm ys)) ∧ Below w.heap.size w w' := by
  have hl := hX.len
  have hl' := hY.len
  have t1 : True := trivial
  have t2 : True := trivial
  go_enter Try.func18, Try.ntmps18
  go_wp2_with (first
    | (at_builtin; clear t1; refine wp_app0 rfl _ _ rfl rfl a n c xs rfl hX (by omega) ?_; intro v1 w1 hown1 hb1 hv1; obtain ⟨g1, cap1, rfl⟩ := hv1)
    | (at_builtin; clear t2; refine wp_app rfl _ _ rfl w.heap.size _ n xs rfl (hown1.alloc _) _ 4 4 _ rfl (rd_four w1 _ _ _ _ (by omega) (by omega) (by omega) (by omega)) (by omega) (by have := hb1.size; simp; omega) ?_; intro v2 w2 hown2 hgr2 _; have hb2 : Below w.heap.size w w2 := (hb1.alloc hb1.size _).grown hgr2 (by have := hb1.size; simp; omega) (fun k e => (hown1.lt k e).1); obtain ⟨g2, cap2, rfl⟩ := ownsRow_succ hown2)
    | (at_builtin; refine wp_app rfl _ _ rfl w.heap.size _ _ _ rfl hown2 a' n' c' ys rfl (hY.carry (Nat.le_refl _) hb2) (by omega) hb2.size ?_; intro v7 w7 hown7 hgr7 _; have hb7 : Below w.heap.size w w7 := hb2.grown hgr7 hb2.size (fun k e => (hown2.lt k e).1)))
  go_ret
  have hf := put_four (xs := xs) hl' hn'
  have hlen : (xs ++ frm ys).length = n + 4 + n' := by rw [List.length_append, frm_len]; omega
  refine ⟨_, rfl, ?_, hb7⟩
  rw [hlen, ← hf]
  exact hown7

theorem putR (a : Option Addr) (n c : Nat) (xs : List Int) (a' : Option Addr) (n' c' : Nat) (ys : List Int) (w : World) (hX : Rd w a n c xs) (hY : Rd w a' n' c' ys) (hn : n ≤ 10000000) (hn' : n' ≤ 10000000) :
    Calls Try.prog 17 #[.slice a n c, .slice a' n' c'] w fun e w' => ∃ a1 n1 c1, e = .returned (.slice a1 n1 c1) ∧ Rd w' a1 n1 c1 (xs ++ frm ys) ∧ n1 = n + 4 + n' ∧ Below w.heap.size w w' ∧ (∀ ad, a1 = some ad → w.heap.size ≤ ad.block) := by
  refine (put_any a n c xs a' n' c' ys w hX hY hn hn').mono ?_
  rintro e w1 ⟨v1, rfl, hown1, hb1⟩
  obtain ⟨a1, c1, rfl, hr1⟩ := Rd.ofOwn hown1 (hX.bytes.append (frm_bd hY.bytes))
  refine ⟨a1, _, c1, rfl, hr1, ?_, hb1, fun ad had => (hown1.lt ad.block (by rw [had]; rfl)).1⟩
  rw [List.length_append, frm_len, hX.len, hY.len]; omega

theorem refPutR (a : Option Addr) (n c : Nat) (xs : List Int) (a' : Option Addr) (n' c' : Nat) (ys : List Int) (w : World) (hX : Rd w a n c xs) (hY : Rd w a' n' c' ys) (hn : n ≤ 10000000) (hn' : n' ≤ 10000000) :
    Calls Try.prog 18 #[.slice a n c, .slice a' n' c'] w fun e w' => ∃ a1 n1 c1, e = .returned (.slice a1 n1 c1) ∧ Rd w' a1 n1 c1 (xs ++ frm ys) ∧ n1 = n + 4 + n' ∧ Below w.heap.size w w' := by
  refine (refPut_any a n c xs a' n' c' ys w hX hY hn hn').mono ?_
  rintro e w1 ⟨v1, rfl, hown1, hb1⟩
  obtain ⟨a1, c1, rfl, hr1⟩ := Rd.ofOwn hown1 (hX.bytes.append (frm_bd hY.bytes))
  refine ⟨a1, _, c1, rfl, hr1, ?_, hb1⟩
  rw [List.length_append, frm_len, hX.len, hY.len]; omega

end Go.Proofs.Ytmpoddgmkneffaa
