/- append([]byte(), x...): a copy in new memory; roostkeep.Twin. -/
import Derived.Test.YtomkcmkbehcjnaaDoorBehind
import Derived.Laws.AppendOwnNone
namespace Go.Proofs.YtomkcmkbehcjnaaDoor
open Go.RowKit

/-- 'append(s, x...)' of bytes, s the call's own, x whatever slice of bytes. -/
theorem wp_app {w : World} {ops : Array Oper} {rest : List Oper} {o : Oper} {a : Act} {Q : Exit → Act → World → Prop} (hgd : o.guard = none) (s x : Operand)
    (ho : o.op = .call { callee := .builtin .append, args := #[s, x], argTypes := #[28, 28] })
    (base : Nat) (v : Value) (n : Nat) (xs : List Int) (hs : a.eval s = v) (hown : w.ownsRow base 5 1 v n (bc xs))
    (ao : Option Addr) (m c : Nat) (ys : List Int) (hx : a.eval x = .slice ao m c) (hr : Rd w ao m c ys) (hb : n + m ≤ 1000000000) (hbase : base ≤ w.heap.size)
    (h : ∀ v' w', w'.ownsRow base 5 1 v' (n + m) (bc (xs ++ ys)) → w.grownBy w' v.ownBlock → wpList Tryd.prog ops Q rest (a.put o.dst v') w') : wpList Tryd.prog ops Q (o :: rest) a w := by
  obtain ⟨i0, hi, hz0, hz1, hz2⟩ := info_parts Tryd.info5
  cases ao with
  | none =>
    obtain ⟨rfl, rfl⟩ := rd_none hr rfl
    have hys : ys = [] := List.eq_nil_of_length_eq_zero hr.len
    subst hys
    refine wpList_append_own_none hgd s x 28 ho base 5 i0 1 Tryd.underlying28 hi v n (bc xs) hs hown hx ?_
    refine h v w ?_ (World.grownBy.refl _ _)
    simpa using hown
  | some ad =>
    refine wpList_append_own w hgd s x 28 ho base 5 i0 (.int .u8 0) 1 1 Tryd.underlying28 hi hz0 hz1 hz2 rfl (by decide) v n (bc xs) hs hown ad m c (bc ys) hx (by rw [bc_len, hr.len]; omega) (hr.news rfl) (bc_one ys) (by unfold maxLen; omega) (by omega) hbase ?_
    intro v' w' h1 h2 _
    rw [← bc_append] at h1
    exact h v' w' h1 h2

/-- The same where s is a new empty slice: in the world that was there before it. -/
theorem wp_app0 {w : World} {ops : Array Oper} {rest : List Oper} {o : Oper} {a : Act} {Q : Exit → Act → World → Prop} (hgd : o.guard = none) (s x : Operand)
    (ho : o.op = .call { callee := .builtin .append, args := #[s, x], argTypes := #[28, 28] })
    (hs : a.eval s = .slice (some ⟨w.heap.size, 0, none⟩) 0 0)
    (ao : Option Addr) (m c : Nat) (ys : List Int) (hx : a.eval x = .slice ao m c) (hr : Rd w ao m c ys) (hb : m ≤ 1000000000)
    (h : ∀ v' w', w'.ownsRow w.heap.size 5 1 v' m (bc ys) → Below w.heap.size w w' → wpList Tryd.prog ops Q rest (a.put o.dst v') w') : wpList Tryd.prog ops Q (o :: rest) a (w.alloc (.cells #[] 5)) := by
  have hown : (w.alloc (.cells #[] 5)).ownsRow w.heap.size 5 1 (.slice (some ⟨w.heap.size, 0, none⟩) 0 0) 0 (bc []) := World.ownsRow_made w #[] 0 (Nat.le_refl _) (by unfold maxLen; omega) rfl
  refine wp_app hgd s x ho w.heap.size _ 0 [] hs hown ao m c ys hx (hr.carry (Nat.le_refl _) ((Below.refl _ _).alloc (Nat.le_refl _) _)) (by omega) (by simp) ?_
  intro v' w' h1 h2
  simp only [Nat.zero_add, List.nil_append] at h1
  refine h v' w' h1 (((Below.refl _ _).alloc (Nat.le_refl _) _).grown h2 (by simp) (fun k hk => ?_))
  cases hk; exact Nat.le_refl _

theorem Rd.take {w : World} {a : Option Addr} {n c : Nat} {xs : List Int} (h : Rd w a n c xs) {k : Nat} (hk : k ≤ n) : Rd w a k c (xs.take k) := by
  refine ⟨by rw [List.length_take, h.len]; omega, by have := h.cap; omega, h.most, h.nil, h.bytes.take k, fun ad ha j hj => ?_⟩
  rw [h.cells ad ha j (by omega)]
  simp [List.getD, hj]

set_option maxHeartbeats 800000 in
theorem twin_any (a : Option Addr) (n c : Nat) (xs : List Int) (most : Nat) (w : World) (hR : Rd w a n c xs) (hm : most ≤ 100000) :
    Calls Tryd.prog 15 #[.slice a n c, .int .i64 most] w fun e w' => ∃ v, e = .returned v ∧ w'.ownsRow w.heap.size 5 1 v (xs.take most).length (bc (xs.take most)) ∧ Below w.heap.size w w' := by
  have hl := hR.len
  have hcp := hR.cap
  have hmx : c ≤ 9223372036854775807 := hR.most
  by_cases hn : (most : Int) < (n : Int)
  · have hlt : (xs.take most).length = most := by rw [List.length_take]; omega
    rw [hlt]
    go_enter Tryd.func15, Tryd.ntmps15
    go_wp2_with (at_builtin; refine wp_app0 rfl _ _ rfl rfl a most c (xs.take most) rfl (hR.take (by omega)) (by omega) ?_; intro v' w1 hown1 hb1)
    go_ret
    exact ⟨_, rfl, hown1, hb1⟩
  · have hlt : xs.take most = xs := List.take_of_length_le (by omega)
    rw [hlt, hl]
    go_enter Tryd.func15, Tryd.ntmps15
    go_wp2_with (at_builtin; refine wp_app0 rfl _ _ rfl rfl a n c xs rfl hR (by omega) ?_; intro v' w1 hown1 hb1)
    go_ret
    exact ⟨_, rfl, hown1, hb1⟩

end Go.Proofs.YtomkcmkbehcjnaaDoor
