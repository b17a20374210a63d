/- What a call keeps of memory; append of bytes with its place told: the base of the Own texts in a seat without FrBase. -/
import Derived.Test.YtiplalbicibahaaDoorBytes
import Derived.Laws.AppendOwnNone
import Derived.Deep.CutRange
import Derived.Deep.QuietTactic
import Derived.BigQuiet
import Derived.RangeFuncBox
namespace Go.Proofs.YtiplalbicibahaaDoor
open Go.RowKit

/-! ### What is kept: every old block but those of S -/
structure Keep (S : Nat → Prop) (w w' : World) : Prop where
  os : w'.os = w.os
  tape : w'.tape = w.tape
  output : w'.output = w.output
  size : w.heap.size ≤ w'.heap.size
  block : ∀ k, k < w.heap.size → ¬ S k → w'.heap[k]? = w.heap[k]?

theorem Keep.refl (S : Nat → Prop) (w : World) : Keep S w w := ⟨rfl, rfl, rfl, Nat.le_refl _, fun _ _ _ => rfl⟩
theorem Keep.trans {S : Nat → Prop} {a b c : World} (h : Keep S a b) (k : Keep S b c) : Keep S a c :=
  ⟨k.os.trans h.os, k.tape.trans h.tape, k.output.trans h.output, Nat.le_trans h.size k.size, fun i hi hs => (k.block i (Nat.lt_of_lt_of_le hi h.size) hs).trans (h.block i hi hs)⟩
/-- What the second step may turn must be let by the first's word, or be new. -/
theorem Keep.andThen {S T : Nat → Prop} {a b c : World} (h : Keep S a b) (k : Keep T b c) (hT : ∀ i, i < a.heap.size → T i → S i) : Keep S a c :=
  ⟨k.os.trans h.os, k.tape.trans h.tape, k.output.trans h.output, Nat.le_trans h.size k.size, fun i hi hs => (k.block i (Nat.lt_of_lt_of_le hi h.size) (fun t => hs (hT i hi t))).trans (h.block i hi hs)⟩
theorem Keep.mono {S T : Nat → Prop} {a b : World} (h : Keep S a b) (hST : ∀ i, S i → T i) : Keep T a b := ⟨h.os, h.tape, h.output, h.size, fun i hi hs => h.block i hi (fun s => hs (hST i s))⟩
theorem Keep.drew {S : Nat → Prop} {a b : World} (h : Keep S a b) : Keep S a b.drew := ⟨h.os, h.tape, h.output, h.size, h.block⟩
theorem Keep.ofGrown {w w' : World} {row : Option Nat} (h : w.grownBy w' row) : Keep (fun k => row = some k) w w' := ⟨h.os, h.tape, h.output, h.size, fun k hk hs => h.block k hk (fun e => hs e.symm)⟩
theorem Keep.ofBelow {S : Nat → Prop} {w w' : World} (h : Below w.heap.size w w') : Keep S w w' := ⟨h.os, h.tape, h.output, h.size, fun k hk _ => h.block k hk⟩
theorem Keep.below {S : Nat → Prop} {B : Nat} {w w' : World} (h : Keep S w w') (hB : B ≤ w.heap.size) (hS : ∀ k, S k → B ≤ k) : Below B w w' :=
  ⟨h.os, h.tape, h.output, h.size, fun k hk => h.block k (by omega) (fun s => by have := hS k s; omega)⟩
theorem Keep.alloc {S : Nat → Prop} {a w : World} (h : Keep S a w) (o : Obj) : Keep S a (w.alloc o) :=
  h.trans ⟨rfl, rfl, rfl, by simp, fun k hk _ => Below.heap_alloc _ _ _ hk⟩
theorem Keep.setCell {S : Nat → Prop} {a w : World} (h : Keep S a w) {p : Addr} (hp : S p.block) (u : Value) : Keep S a (w.setCell p u) :=
  h.trans ⟨rfl, rfl, rfl, by simp [World.setCell], fun k _ hs => Below.heap_setCell _ _ _ _ (fun e => hs (by rw [e]; exact hp))⟩
theorem Keep.setNew {S : Nat → Prop} {a w : World} (h : Keep S a w) {p : Addr} (hp : a.heap.size ≤ p.block) (u : Value) : Keep S a (w.setCell p u) :=
  h.andThen (T := fun k => k = p.block) ⟨rfl, rfl, rfl, by simp [World.setCell], fun k _ hs => Below.heap_setCell _ _ _ _ hs⟩ (fun i hi e => by omega)
theorem Keep.cell {S : Nat → Prop} {w w' : World} (h : Keep S w w') {p : Addr} {v : Value} (hc : w.cell? p = some v) (hs : ¬ S p.block) : w'.cell? p = some v :=
  (World.cell?_of_block (h.block p.block (World.block_lt_of_cell? w p hc) hs)).trans hc

theorem own_keep {S : Nat → Prop} {w w' : World} {B : Nat} {e : TypeId} {sz : Nat} {v : Value} {n : Nat} {xs : List Value} (h : w.ownsRow B e sz v n xs) (hk : Keep S w w') (hs : ∀ k, v.ownBlock = some k → ¬ S k) : w'.ownsRow B e sz v n xs := by
  obtain ⟨h1, h2⟩ := h
  refine ⟨h1, ?_⟩
  rcases h2 with h2 | ⟨g, cap, cur, hv, hg, hh, r⟩
  · exact Or.inl h2
  · refine Or.inr ⟨g, cap, cur, hv, hg, ?_, r⟩
    rw [hk.block g (Array.getElem?_eq_some_iff.1 hh).1 (hs g (by rw [hv]; rfl))]; exact hh

theorem own_weak {w : World} {B B' : Nat} {e : TypeId} {sz : Nat} {v : Value} {n : Nat} {xs : List Value} (h : w.ownsRow B e sz v n xs) (hB : B' ≤ B) : w.ownsRow B' e sz v n xs :=
  ⟨h.1, h.2.elim .inl (fun ⟨g, cap, cur, hv, hg, r⟩ => .inr ⟨g, cap, cur, hv, Nat.le_trans hB hg, r⟩)⟩
/-- A row owned from B on whose block lies from B' on. -/
theorem own_from {w : World} {B B' : Nat} {e : TypeId} {sz : Nat} {v : Value} {n : Nat} {xs : List Value} (h : w.ownsRow B e sz v n xs) (hB : ∀ k, v.ownBlock = some k → B' ≤ k) : w.ownsRow B' e sz v n xs :=
  ⟨h.1, h.2.elim .inl (fun ⟨g, cap, cur, hv, _, r⟩ => .inr ⟨g, cap, cur, hv, hB g (by rw [hv]; rfl), r⟩)⟩

theorem Rd.keep {S : Nat → Prop} {w w' : World} {a : Option Addr} {n c : Nat} {xs : List Int} (h : Rd w a n c xs) (hk : Keep S w w') (hs : ∀ ad, a = some ad → ¬ S ad.block) : Rd w' a n c xs :=
  ⟨h.len, h.cap, h.most, h.nil, h.bytes, fun ad ha j hj => by
    have hc := h.cells ad ha j hj
    exact hk.cell hc (by
      have : (ad.add j).block = ad.block := by unfold Addr.add; split <;> rfl
      rw [this]; exact hs ad ha)⟩

theorem rd_noneK {w : World} {a : Option Addr} {n c : Nat} {xs : List Int} (h : Rd w a n c xs) : a = none → n = 0 ∧ c = 0 := fun ha => by
  have := h.nil ha; have := h.cap; omega
theorem Rd.blk {w : World} {a : Option Addr} {n c : Nat} {xs : List Int} (h : Rd w a n c xs) (hn : 0 < n) {ad : Addr} (ha : a = some ad) : ad.block < w.heap.size := by
  have := World.block_lt_of_cell? w _ (h.cells ad ha 0 hn)
  have e : (ad.add 0).block = ad.block := by unfold Addr.add; split <;> rfl
  rwa [e] at this

theorem Rd.takeK {w : World} {a : Option Addr} {n c : Nat} {xs : List Int} (h : Rd w a n c xs) {k : Nat} (hk : k ≤ n) : Rd w a k c (xs.take k) := by
  refine ⟨by rw [List.length_take, h.len]; omega, by have := h.cap; omega, h.most, h.nil, h.bytes.take k, fun ad ha j hj => ?_⟩
  rw [h.cells ad ha j (by omega)]
  simp [List.getD, hj]

theorem Rd.drop {w : World} {b off n c : Nat} {xs : List Int} (h : Rd w (some ⟨b, off, none⟩) n c xs) {k : Nat} (hk : k ≤ n) : Rd w (some ⟨b, off + k, none⟩) (n - k) (c - k) (xs.drop k) := by
  refine ⟨by rw [List.length_drop, h.len], by have := h.cap; omega, by have := h.most; omega, (fun e => by cases e), h.bytes.drop k, fun ad ha j hj => ?_⟩
  cases ha
  have := h.cells _ rfl (k + j) (by omega)
  rw [add_flat] at this ⊢
  rw [← Nat.add_assoc] at this
  rw [this]
  simp [List.getD]

/-! ### append of bytes -/
set_option maxRecDepth 100000 in
theorem app_where {w : World} {base : Nat} {v : Value} {n : Nat} {xs : List Int} (hown : w.ownsRow base 5 1 v n (bc xs)) {ad : Addr} {m c : Nat} {ys : List Int} (hr : Rd w (some ad) m c ys) (hb : n + m ≤ 1000000000) {ty : TypeId} {v' : Value} {w' : World}
    (hrun : (Builtin.append_ #[94, 94] ty #[v, .slice (some ad) m c]).run Tryd.prog w = .ok v' w') : v'.ownBlock = v.ownBlock ∨ v'.ownBlock = some w.heap.size := by
  obtain ⟨i0, hi, hz0, hz1, hz2⟩ := info_parts Tryd.info5
  have hl : (bc ys).length = m * i0.size := by rw [bc_len, hr.len, hz1]; omega
  rcases hown.2 with ⟨rfl, rfl⟩ | ⟨g, cap, cur, rfl, hbg, hg, hnc, hcm, hcs, htake⟩
  · by_cases hm : m = 0
    · subst hm
      left
      simp [Builtin.append_, run_underlying Tryd.underlying94, sizeOf, typeInfo, hi, Builtin.lenOf, Builtin.firstCells, loadCells, loadCellsFrom] at hrun
      rw [← hrun.1]
    · right
      have hr2 := run_append_nil (P := Tryd.prog) w 94 ty 5 i0 (.int .u8 0) Tryd.underlying94 hi hz0 ad m c (bc ys) hl (hr.news rfl) (by omega) (by omega) (by rw [hz2]; omega)
      rw [hr2] at hrun
      injection hrun with e _
      rw [← e]; rfl
  · by_cases hroom : n + m ≤ cap
    · left
      have hr2 := run_append_room (P := Tryd.prog) w 94 ty 5 i0 Tryd.underlying94 hi g n cap cur hg ad m c (bc ys) hl (hr.news rfl) (bc_one ys) hroom (by rw [hl, hcs, hz1]; omega)
      rw [hr2] at hrun
      injection hrun with e _
      rw [← e]; rfl
    · right
      have hr2 := run_append_grow (P := Tryd.prog) w 94 ty 5 i0 (.int .u8 0) Tryd.underlying94 hi hz0 ⟨g, 0, none⟩ n cap (bc xs) (by rw [hown.1, hz1]) (hown.cells (g := g) rfl) ad m c (bc ys) hl (hr.news rfl) (by omega) (by omega) (growslice_fits (by omega) (by rw [hz2]; omega))
      rw [hr2] at hrun
      injection hrun with e _
      rw [← e]; rfl

/-- 'append(s, x...)' of bytes, s the call's own, x whatever slice of bytes. -/
theorem wp_appK {w : World} {ops : Array Oper} {rest : List Oper} {o : Oper} {a : Act} {Q : Exit → Act → World → Prop} (hgd : o.guard = none) (s x : Operand)
    (ho : o.op = .call { callee := .builtin .append, args := #[s, x], argTypes := #[94, 94] })
    (base : Nat) (v : Value) (n : Nat) (xs : List Int) (hs : a.eval s = v) (hown : w.ownsRow base 5 1 v n (bc xs))
    (ao : Option Addr) (m c : Nat) (ys : List Int) (hx : a.eval x = .slice ao m c) (hr : Rd w ao m c ys) (hb : n + m ≤ 1000000000) (hbase : base ≤ w.heap.size)
    (h : ∀ v' w', w'.ownsRow base 5 1 v' (n + m) (bc (xs ++ ys)) → w.grownBy w' v.ownBlock → (v'.ownBlock = v.ownBlock ∨ v'.ownBlock = some w.heap.size) → wpList Tryd.prog ops Q rest (a.put o.dst v') w') : wpList Tryd.prog ops Q (o :: rest) a w := by
  obtain ⟨i0, hi, hz0, hz1, hz2⟩ := info_parts Tryd.info5
  cases ao with
  | none =>
    obtain ⟨rfl, rfl⟩ := rd_noneK hr rfl
    have hys : ys = [] := List.eq_nil_of_length_eq_zero hr.len
    subst hys
    refine wpList_append_own_none hgd s x 94 ho base 5 i0 1 Tryd.underlying94 hi v n (bc xs) hs hown hx ?_
    refine h v w ?_ (World.grownBy.refl _ _) (.inl rfl)
    simpa using hown
  | some ad =>
    refine wpList_plain hgd fun K hK => ?_
    obtain ⟨v', w', hrun, h2, h3, _⟩ := run_append_own (P := Tryd.prog) w base 94 o.type 5 i0 (.int .u8 0) 1 1 Tryd.underlying94 hi hz0 hz1 hz2 rfl (by decide) v n (bc xs) hown ad m c (bc ys) (by rw [bc_len, hr.len]; omega) (hr.news rfl) (bc_one ys) (by unfold maxLen; omega) (by omega) hbase
    have hw := app_where hown hr hb hrun
    rw [← bc_append] at h2
    unfold Oper.wp
    simp only [execOp, ho, resolve, invoke, builtin, Sem.run_bind, Sem.run_pure, Result.andThen_ok, List.map_toArray, List.map_cons, List.map_nil, hs, hx, hrun]
    exact hK _ _ (h v' w' h2 h3 hw)

/-- The same where s is a new empty slice: in the world that was there before it. -/
theorem wp_app0K {w : World} {ops : Array Oper} {rest : List Oper} {o : Oper} {a : Act} {Q : Exit → Act → World → Prop} (hgd : o.guard = none) (s x : Operand)
    (ho : o.op = .call { callee := .builtin .append, args := #[s, x], argTypes := #[94, 94] })
    (hs : a.eval s = .slice (some ⟨w.heap.size, 0, none⟩) 0 0)
    (ao : Option Addr) (m c : Nat) (ys : List Int) (hx : a.eval x = .slice ao m c) (hr : Rd w ao m c ys) (hb : m ≤ 1000000000)
    (h : ∀ v' w', w'.ownsRow w.heap.size 5 1 v' m (bc ys) → Below w.heap.size w w' → (∃ g cap, v' = .slice (some ⟨g, 0, none⟩) m cap) → wpList Tryd.prog ops Q rest (a.put o.dst v') w') : wpList Tryd.prog ops Q (o :: rest) a (w.alloc (.cells #[] 5)) := by
  have hown : (w.alloc (.cells #[] 5)).ownsRow w.heap.size 5 1 (.slice (some ⟨w.heap.size, 0, none⟩) 0 0) 0 (bc []) := World.ownsRow_made w #[] 0 (Nat.le_refl _) (by unfold maxLen; omega) rfl
  refine wp_appK hgd s x ho w.heap.size _ 0 [] hs hown ao m c ys hx (hr.carry (Nat.le_refl _) ((Below.refl _ _).alloc (Nat.le_refl _) _)) (by omega) (by simp) ?_
  intro v' w' h1 h2 h3
  simp only [Nat.zero_add, List.nil_append] at h1
  refine h v' w' h1 (((Below.refl _ _).alloc (Nat.le_refl _) _).grown h2 (by simp) (fun k hk => ?_)) ?_
  · cases hk; exact Nat.le_refl _
  · rcases h1.2 with ⟨rfl, _⟩ | ⟨g, cap, cur, rfl, _⟩
    · rcases h3 with h3 | h3 <;> simp [Value.ownBlock] at h3
    · exact ⟨g, cap, rfl⟩

theorem rd_drewN {w : World} {a : Option Addr} {n c : Nat} {xs : List Int} (h : Rd w a n c xs) (k : Nat) : Rd (w.drewN k) a n c xs := ⟨h.len, h.cap, h.most, h.nil, h.bytes, h.cells⟩

end Go.Proofs.YtiplalbicibahaaDoor
