/- Rows of own bytes in a row of their own: a half of a loan or of a book; what append does to it. -/
import Derived.Test.YtimfidhehikaiaaOwnP
import Derived.Laws.OwnMore
namespace Go.Proofs.Ytimfidhehikaiaa
open Go.RowKit

theorem ow_info : (Try.prog.info? 31).map (fun i => (i.zero, i.size, i.bytes)) = some (some (.slice none 0 0), 1, 24) := by kernel_rfl

theorem own_ty {W : World} {lo n sz : Nat} {e : TypeId} {v : Value} {xs : List Value} (h : W.ownsRow lo e sz v n xs) {k : Nat} (hk : v.ownBlock = some k) : ∃ cur, W.heap[k]? = some (.cells cur e (0, 0)) := by
  rcases h.2 with ⟨rfl, _⟩ | ⟨g, cap', cur, rfl, hg, hh, _⟩
  · cases hk
  · cases hk; exact ⟨cur, hh⟩
theorem cells_ty {W : World} {k : Nat} {c1 c2 : Array Value} {e1 e2 : TypeId} {q1 q2 : Nat × Nat} (h1 : W.heap[k]? = some (.cells c1 e1 q1)) (h2 : W.heap[k]? = some (.cells c2 e2 q2)) : e1 = e2 := by
  rw [h1] at h2
  injection h2 with h
  injection h
theorem own_sl {W : World} {lo n sz : Nat} {e : TypeId} {v : Value} {xs : List Value} (h : W.ownsRow lo e sz v n xs) : ∃ a c, v = .slice a n c := by
  rcases h.2 with ⟨rfl, rfl⟩ | ⟨g, cap, cur, rfl, _⟩
  · exact ⟨none, 0, rfl⟩
  · exact ⟨_, _, rfl⟩
theorem own_drew {W : World} {lo n sz : Nat} {e : TypeId} {v : Value} {xs : List Value} (h : W.ownsRow lo e sz v n xs) : W.drew.ownsRow lo e sz v n xs := h
theorem Ows.ty {w : World} : ∀ {vs : List Value} {xs : List (List Int)}, Ows w vs xs → ∀ {k : Nat}, k ∈ blks vs → ∃ cur, w.heap[k]? = some (.cells cur 5 (0, 0))
  | [], [], _, _, hk => by cases hk
  | [], _ :: _, h, _, _ => h.elim
  | _ :: _, [], h, _, _ => h.elim
  | v :: vs, x :: xs, h, k, hk => by
    obtain ⟨u, hu, hb⟩ := mem_blks.1 hk
    rcases List.mem_cons.1 hu with rfl | hu
    · exact own_ty h.1.own hb
    · exact Ows.ty h.2 (mem_blks.2 ⟨u, hu, hb⟩)
theorem Ow.one {w : World} {v : Value} {x : List Int} (h : Ow w v x) : v.oneCell' = true := by
  obtain ⟨a, c, rfl⟩ := own_sl h.own
  rfl
theorem Ow.rd {w : World} {v : Value} {x : List Int} (h : Ow w v x) : ∃ a c, v = .slice a x.length c ∧ Rd w a x.length c x := Rd.ofOwn h.own h.bd
theorem Ow.ofFrom {w : World} {B : Nat} {v : Value} {x : List Int} {n : Nat} (h : w.ownsRow B 5 1 v n (bc x)) (hb : Bd x) : Ow w v x := by
  have hl : n = x.length := by have := h.1; rw [bc_len] at this; omega
  subst hl
  exact ⟨own_weak h (Nat.zero_le _), hb⟩

/-! ### a row of rows -/
structure Half (w : World) (rv : Value) (vs : List Value) (xs : List (List Int)) : Prop where
  row : w.ownsRow 0 31 1 rv vs.length vs
  ows : Ows w vs xs
def HF (rv : Value) (vs : List Value) (k : Nat) : Prop := rv.ownBlock = some k ∨ k ∈ blks vs

theorem Half.keep {S : Nat → Prop} {w w' : World} {rv : Value} {vs : List Value} {xs : List (List Int)} (h : Half w rv vs xs) (hk : Keep S w w') (hs : ∀ k, HF rv vs k → ¬ S k) : Half w' rv vs xs :=
  ⟨own_keep h.row hk (fun k e => hs k (.inl e)), h.ows.keep hk (fun k e => hs k (.inr e))⟩
theorem Half.lt {w : World} {rv : Value} {vs : List Value} {xs : List (List Int)} (h : Half w rv vs xs) : ∀ k, HF rv vs k → k < w.heap.size :=
  fun k e => e.elim (fun e => (h.row.lt k e).2) (fun e => h.ows.lt k e)
theorem Half.nil (w : World) : Half w (.slice none 0 0) [] [] := ⟨World.ownsRow_nil _ _ _ _, trivial⟩
theorem Half.not {w : World} {rv : Value} {vs : List Value} {xs : List (List Int)} (h : Half w rv vs xs) {p : Nat} {cs : Array Value} {t : TypeId} {q : Nat × Nat} (hp : w.heap[p]? = some (.cells cs t q)) (h1 : t ≠ 31) (h2 : t ≠ 5) : ¬ HF rv vs p := by
  rintro (e | e)
  · obtain ⟨_, hc⟩ := own_ty h.row e; exact h1 (cells_ty hp hc)
  · obtain ⟨_, hc⟩ := h.ows.ty e; exact h2 (cells_ty hp hc)
/-- The row's block is none of the bytes'. -/
theorem row_apart {w : World} {rv : Value} {n : Nat} {us : List Value} (hr : w.ownsRow 0 31 1 rv n us) {vs : List Value} {xs : List (List Int)} (h : Ows w vs xs) : ∀ k, k ∈ blks vs → ¬ rv.ownBlock = some k := by
  intro k hk e
  obtain ⟨_, h1⟩ := own_ty hr e
  obtain ⟨_, h2⟩ := h.ty hk
  exact absurd (cells_ty h1 h2) (by decide)
theorem row_apart1 {w : World} {rv : Value} {n : Nat} {us : List Value} (hr : w.ownsRow 0 31 1 rv n us) {v : Value} {x : List Int} (h : Ow w v x) : ∀ k, v.ownBlock = some k → ¬ rv.ownBlock = some k := by
  intro k hk e
  obtain ⟨_, h1⟩ := own_ty hr e
  obtain ⟨_, h2⟩ := own_ty h.own hk
  exact absurd (cells_ty h1 h2) (by decide)
theorem Half.snoc {w w' : World} {rv rv' : Value} {vs : List Value} {xs : List (List Int)} {u : Value} {x : List Int} (h : Half w rv vs xs) (hu : Ow w u x) (hr : w'.ownsRow 0 31 1 rv' (vs.length + 1) (vs ++ [u])) (hk : Keep (fun k => rv.ownBlock = some k) w w') : Half w' rv' (vs ++ [u]) (xs ++ [x]) := by
  refine ⟨by rw [List.length_append]; exact hr, (h.ows.keep hk (row_apart h.row h.ows)).append ⟨hu.keep hk (row_apart1 h.row hu), trivial⟩⟩
theorem Half.cell {w : World} {rv : Value} {vs : List Value} {xs : List (List Int)} (h : Half w rv vs xs) {j : Nat} (hj : j < vs.length) : ∃ g cap a n c, rv = .slice (some ⟨g, 0, none⟩) vs.length cap ∧ w.cell? ⟨g, j, none⟩ = some (.slice a n c) ∧ vs[j]? = some (.slice a n c) ∧ Ow w (.slice a n c) (xs.getD j []) ∧ n = (xs.getD j []).length ∧ Rd w a n c (xs.getD j []) := by
  rcases h.row.2 with ⟨_, h0⟩ | ⟨g, cap, cur, hv, _⟩
  · omega
  · subst hv
    have hg : vs[j]? = some vs[j] := List.getElem?_eq_getElem hj
    have ho := h.ows.get hg
    obtain ⟨a, c, hv, hr⟩ := ho.rd
    rw [hv] at hg ho
    refine ⟨g, cap, a, _, c, rfl, ?_, hg, ho, rfl, hr⟩
    have := h.row.cells (g := g) rfl j _ hg
    rwa [add_flat, Nat.zero_add] at this
theorem blks_snoc (vs : List Value) (u : Value) (k : Nat) : k ∈ blks (vs ++ [u]) ↔ k ∈ blks vs ∨ u.ownBlock = some k := by
  rw [blks_append, List.mem_append]
  refine or_congr Iff.rfl ?_
  rw [mem_blks]
  simp

/-! ### append, at its run -/
/-- Where an append's answer lies. -/
def Wh (w : World) (v v' : Value) (n m : Nat) : Prop := (∃ g cap, v = .slice (some ⟨g, 0, none⟩) n cap ∧ v' = .slice (some ⟨g, 0, none⟩) (n + m) cap) ∨ (v' = v ∧ m = 0) ∨ v'.ownBlock = some w.heap.size
theorem Wh.blk {w : World} {v v' : Value} {n m : Nat} (h : Wh w v v' n m) : ∀ k, v'.ownBlock = some k → v.ownBlock = some k ∨ w.heap.size ≤ k := by
  rcases h with ⟨g, cap, rfl, rfl⟩ | ⟨rfl, _⟩ | h
  · exact fun k e => .inl e
  · exact fun k e => .inl e
  · intro k e; rw [h] at e; cases e; exact .inr (Nat.le_refl _)

set_option maxRecDepth 100000 in
theorem bytes_where {w : World} {base : Nat} {v : Value} {n : Nat} {xs : List Int} (hown : w.ownsRow base 5 1 v n (bc xs)) {ad : Addr} {m c : Nat} {ys : List Int} (hr : Rd w (some ad) m c ys) (hb : n + m ≤ 1000000000) {ty : TypeId} {v' : Value} {w' : World}
    (hrun : (Builtin.append_ #[31, 31] ty #[v, .slice (some ad) m c]).run Try.prog w = .ok v' w') : Wh w v v' n m := by
  obtain ⟨i0, hi, hz0, hz1, hz2⟩ := info_parts Try.info5
  have hl : (bc ys).length = m * i0.size := by rw [bc_len, hr.len, hz1]; omega
  rcases hown.2 with ⟨rfl, rfl⟩ | ⟨g, cap, cur, rfl, hbg, hg, hnc, hcm, hcs, htake⟩
  · by_cases hm : m = 0
    · subst hm
      right; left
      simp [Builtin.append_, run_underlying Try.underlying31, sizeOf, typeInfo, hi, Builtin.lenOf, Builtin.firstCells, loadCells, loadCellsFrom] at hrun
      exact ⟨hrun.1.symm, rfl⟩
    · right; right
      have hr2 := run_append_nil (P := Try.prog) w 31 ty 5 i0 (.int .u8 0) Try.underlying31 hi hz0 ad m c (bc ys) hl (hr.news rfl) (by omega) (by omega) (by rw [hz2]; omega)
      rw [hr2] at hrun
      injection hrun with e _
      rw [← e]; rfl
  · by_cases hroom : n + m ≤ cap
    · left
      have hr2 := run_append_room (P := Try.prog) w 31 ty 5 i0 Try.underlying31 hi g n cap cur hg ad m c (bc ys) hl (hr.news rfl) (bc_one ys) hroom (by rw [hl, hcs, hz1]; omega)
      rw [hr2] at hrun
      injection hrun with e _
      exact ⟨g, cap, rfl, e.symm⟩
    · right; right
      have hr2 := run_append_grow (P := Try.prog) w 31 ty 5 i0 (.int .u8 0) Try.underlying31 hi hz0 ⟨g, 0, none⟩ n cap (bc xs) (by rw [hown.1, hz1]) (hown.cells (g := g) rfl) ad m c (bc ys) hl (hr.news rfl) (by omega) (by omega) (growslice_fits (by omega) (by rw [hz2]; omega))
      rw [hr2] at hrun
      injection hrun with e _
      rw [← e]; rfl

/-- append(v, x...) of bytes. -/
theorem run_bytes {w : World} {base : Nat} {v : Value} {n : Nat} {xs : List Int} (ty : TypeId) (hown : w.ownsRow base 5 1 v n (bc xs)) {ao : Option Addr} {m c : Nat} {ys : List Int} (hr : Rd w ao m c ys) (hb : n + m ≤ 1000000000) (hbase : base ≤ w.heap.size) :
    ∃ v' w', (Builtin.append_ #[31, 31] ty #[v, .slice ao m c]).run Try.prog w = .ok v' w' ∧ w'.ownsRow base 5 1 v' (n + m) (bc (xs ++ ys)) ∧ w.grownBy w' v.ownBlock ∧ Wh w v v' n m := by
  obtain ⟨i0, hi, hz0, hz1, hz2⟩ := info_parts Try.info5
  cases ao with
  | none =>
    obtain ⟨rfl, rfl⟩ := rd_noneK hr rfl
    have hys : ys = [] := List.eq_nil_of_length_eq_zero hr.len
    subst hys
    exact ⟨v, w, run_append_owned_none w base 31 ty 5 i0 1 Try.underlying31 hi _ n (bc xs) hown, by simpa using hown, World.grownBy.refl _ _, .inr (.inl ⟨rfl, rfl⟩)⟩
  | some ad =>
    obtain ⟨v', w', hrun, h2, h3, _⟩ := run_append_own (P := Try.prog) w base 31 ty 5 i0 (.int .u8 0) 1 1 Try.underlying31 hi hz0 hz1 hz2 rfl (by decide) v n (bc xs) hown ad m c (bc ys) (by rw [bc_len, hr.len]; omega) (hr.news rfl) (bc_one ys) (by unfold maxLen; omega) (by omega) hbase
    have hw := bytes_where hown hr hb hrun
    rw [← bc_append] at h2
    exact ⟨v', w', hrun, h2, h3, hw⟩

set_option maxRecDepth 100000 in
theorem row_where {w : World} {base : Nat} {v : Value} {n : Nat} {vs : List Value} (hown : w.ownsRow base 31 1 v n vs) {ad : Addr} {u : Value} (hc : ∀ j x, [u][j]? = some x → w.cell? (ad.add j) = some x) (h1 : ∀ x ∈ [u], x.oneCell' = true) (hb : n + 1 ≤ 1000000000) {ty : TypeId} {v' : Value} {w' : World}
    (hrun : (Builtin.append_ #[40, 40] ty #[v, .slice (some ad) 1 1]).run Try.prog w = .ok v' w') : Wh w v v' n 1 := by
  obtain ⟨i0, hi, hz0, hz1, hz2⟩ := info_parts ow_info
  have hl : [u].length = 1 * i0.size := by rw [hz1]; rfl
  rcases hown.2 with ⟨rfl, rfl⟩ | ⟨g, cap, cur, rfl, hbg, hg, hnc, hcm, hcs, htake⟩
  · right; right
    have hr2 := run_append_nil (P := Try.prog) w 40 ty 31 i0 (.slice none 0 0) Try.underlying40 hi hz0 ad 1 1 [u] hl hc (by omega) (by omega) (by rw [hz2]; omega)
    rw [hr2] at hrun
    injection hrun with e _
    rw [← e]; rfl
  · by_cases hroom : n + 1 ≤ cap
    · left
      have hr2 := run_append_room (P := Try.prog) w 40 ty 31 i0 Try.underlying40 hi g n cap cur hg ad 1 1 [u] hl hc h1 hroom (by rw [hl, hcs, hz1]; omega)
      rw [hr2] at hrun
      injection hrun with e _
      exact ⟨g, cap, rfl, e.symm⟩
    · right; right
      have hr2 := run_append_grow (P := Try.prog) w 40 ty 31 i0 (.slice none 0 0) Try.underlying40 hi hz0 ⟨g, 0, none⟩ n cap vs (by rw [hown.1, hz1]) (hown.cells (g := g) rfl) ad 1 1 [u] hl hc (by omega) (by omega) (growslice_fits (by omega) (by rw [hz2]; omega))
      rw [hr2] at hrun
      injection hrun with e _
      rw [← e]; rfl

/-- append(rows, u): u's one-place array lies in block s. -/
theorem run_row {w : World} {v : Value} {n : Nat} {vs : List Value} (ty : TypeId) (hown : w.ownsRow 0 31 1 v n vs) {s : Nat} {u : Value} (hs : w.heap[s]? = some (.cells #[u] 31 (0, 0))) (h1 : u.oneCell' = true) (hb : n + 1 ≤ 1000000000) :
    ∃ g cap w', (Builtin.append_ #[40, 40] ty #[v, .slice (some ⟨s, 0, none⟩) 1 1]).run Try.prog w = .ok (.slice (some ⟨g, 0, none⟩) (n + 1) cap) w' ∧ w'.ownsRow 0 31 1 (.slice (some ⟨g, 0, none⟩) (n + 1) cap) (n + 1) (vs ++ [u]) ∧ Keep (fun k => v.ownBlock = some k) w w' ∧ (v.ownBlock = some g ∨ w.heap.size ≤ g) := by
  obtain ⟨i0, hi, hz0, hz1, hz2⟩ := info_parts ow_info
  have hc : ∀ j x, [u][j]? = some x → w.cell? ((⟨s, 0, none⟩ : Addr).add j) = some x := by
    intro j x hx
    match j, hx with
    | 0, hx => simp at hx; subst hx; rw [add_flat]; simp [World.cell?, hs]
    | j + 1, hx => simp at hx
  have h1' : ∀ x ∈ [u], x.oneCell' = true := by intro x hx; simp at hx; rw [hx]; exact h1
  obtain ⟨v', w', hrun, h2, h3, _⟩ := run_append_own (P := Try.prog) w 0 40 ty 31 i0 (.slice none 0 0) 1 24 Try.underlying40 hi hz0 hz1 hz2 rfl (by decide) v n vs hown ⟨s, 0, none⟩ 1 1 [u] rfl hc h1' (by unfold maxLen; omega) (by omega) (Nat.zero_le _)
  have hw := (row_where hown hc h1' hb hrun).blk
  rcases h2.2 with ⟨_, h0⟩ | ⟨g, cap, cur, rfl, _⟩
  · omega
  · exact ⟨g, cap, w', hrun, h2, Keep.ofGrown h3, hw g rfl⟩

theorem run_app_op' {w w' : World} {o : Oper} {a : Act} {s x : Operand} {t : TypeId} {v u v' : Value} (ho : o.op = .call { callee := .builtin .append, args := #[s, x], argTypes := #[t, t] }) (hs : a.eval s = v) (hx : a.eval x = u)
    (hrun : (Builtin.append_ #[t, t] o.type #[v, u]).run Try.prog w = .ok v' w') : (execOp a.eval o).run Try.prog w = .ok (.value v') w' := by
  simp only [execOp, ho, resolve, invoke, builtin, Sem.run_bind, Sem.run_pure, Result.andThen_ok, List.map_toArray, List.map_cons, List.map_nil, hs, hx, hrun]

theorem wp_row {w : World} {ops : Array Oper} {rest : List Oper} {o : Oper} {a : Act} {Q : Exit → Act → World → Prop} (hgd : o.guard = none) (s x : Operand)
    (ho : o.op = .call { callee := .builtin .append, args := #[s, x], argTypes := #[40, 40] })
    (v : Value) (n : Nat) (vs : List Value) (hs : a.eval s = v) (hown : w.ownsRow 0 31 1 v n vs) (u : Value) (hx : a.eval x = .slice (some ⟨w.heap.size, 0, none⟩) 1 1) (h1 : u.oneCell' = true) (hb : n + 1 ≤ 1000000000)
    (h : ∀ g cap w', w'.ownsRow 0 31 1 (.slice (some ⟨g, 0, none⟩) (n + 1) cap) (n + 1) (vs ++ [u]) → Keep (fun k => v.ownBlock = some k) w w' → (v.ownBlock = some g ∨ w.heap.size ≤ g) → wpList Try.prog ops Q rest (a.put o.dst (.slice (some ⟨g, 0, none⟩) (n + 1) cap)) w') : wpList Try.prog ops Q (o :: rest) a (w.alloc (.cells #[u] 31)) := by
  refine wpList_plain hgd fun K hK => ?_
  obtain ⟨g, cap, w', hrun, h2, h3, h4⟩ := run_row (w := w.alloc (.cells #[u] 31)) o.type (hown.alloc _) (heap_alloc_new _ _) h1 hb
  unfold Oper.wp
  rw [run_app_op' ho hs hx hrun]
  exact hK _ _ (h g cap w' h2 (((Keep.refl _ w).alloc _).trans h3) (h4.imp id (fun h => by simp at h; omega)))

theorem wp_bytes {w : World} {ops : Array Oper} {rest : List Oper} {o : Oper} {a : Act} {Q : Exit → Act → World → Prop} (hgd : o.guard = none) (s x : Operand)
    (ho : o.op = .call { callee := .builtin .append, args := #[s, x], argTypes := #[31, 31] })
    (base : Nat) (v : Value) (n : Nat) (xs : List Int) (hs : a.eval s = v) (hown : w.ownsRow base 5 1 v n (bc xs))
    (ao : Option Addr) (m c : Nat) (ys : List Int) (hx : a.eval x = .slice ao m c) (hr : Rd w ao m c ys) (hb : n + m ≤ 1000000000) (hbase : base ≤ w.heap.size)
    (h : ∀ v' w', w'.ownsRow base 5 1 v' (n + m) (bc (xs ++ ys)) → w.grownBy w' v.ownBlock → Wh w v v' n m → wpList Try.prog ops Q rest (a.put o.dst v') w') : wpList Try.prog ops Q (o :: rest) a w := by
  refine wpList_plain hgd fun K hK => ?_
  obtain ⟨v', w', hrun, h2, h3, h4⟩ := run_bytes (w := w) o.type hown hr hb hbase
  unfold Oper.wp
  rw [run_app_op' ho hs hx hrun]
  exact hK _ _ (h v' w' h2 h3 h4)

/-! ### two rows of rows, apart -/
structure Two (w : World) (fv wv : Value) (fs ws : List Value) (xs ys : List (List Int)) : Prop where
  f : Half w fv fs xs
  g : Half w wv ws ys
  apart : ∀ k, HF fv fs k → ¬ HF wv ws k
  nodup : (blks fs).Nodup
def TF (fv wv : Value) (fs ws : List Value) (k : Nat) : Prop := HF fv fs k ∨ HF wv ws k

theorem Two.keep {S : Nat → Prop} {w w' : World} {fv wv : Value} {fs ws : List Value} {xs ys : List (List Int)} (h : Two w fv wv fs ws xs ys) (hk : Keep S w w') (hs : ∀ k, TF fv wv fs ws k → ¬ S k) : Two w' fv wv fs ws xs ys :=
  ⟨h.f.keep hk (fun k e => hs k (.inl e)), h.g.keep hk (fun k e => hs k (.inr e)), h.apart, h.nodup⟩
theorem Two.lt {w : World} {fv wv : Value} {fs ws : List Value} {xs ys : List (List Int)} (h : Two w fv wv fs ws xs ys) : ∀ k, TF fv wv fs ws k → k < w.heap.size := fun k e => e.elim (h.f.lt k) (h.g.lt k)
theorem Two.not {w : World} {fv wv : Value} {fs ws : List Value} {xs ys : List (List Int)} (h : Two w fv wv fs ws xs ys) {p : Nat} {cs : Array Value} {t : TypeId} {q : Nat × Nat} (hp : w.heap[p]? = some (.cells cs t q)) (h1 : t ≠ 31) (h2 : t ≠ 5) : ¬ TF fv wv fs ws p :=
  fun e => e.elim (h.f.not hp h1 h2) (h.g.not hp h1 h2)
theorem Two.nil (w : World) : Two w (.slice none 0 0) (.slice none 0 0) [] [] [] [] := ⟨Half.nil _, Half.nil _, (fun k e => by rcases e with e | e <;> cases e), List.nodup_nil⟩

theorem HF.snoc {fv fv' : Value} {fs : List Value} {u : Value} {B : Nat} (hw : ∀ k, fv'.ownBlock = some k → fv.ownBlock = some k ∨ B ≤ k) : ∀ k, HF fv' (fs ++ [u]) k → HF fv fs k ∨ u.ownBlock = some k ∨ B ≤ k := by
  rintro k (e | e)
  · exact (hw k e).elim (fun e => .inl (.inl e)) (fun e => .inr (.inr e))
  · exact ((blks_snoc _ _ _).1 e).elim (fun e => .inl (.inr e)) (fun e => .inr (.inl e))

theorem Two.addF {w w' : World} {fv wv fv' : Value} {fs ws : List Value} {xs ys : List (List Int)} {u : Value} {x : List Int} (h : Two w fv wv fs ws xs ys) (hu : Ow w u x) (hun : ∀ k, u.ownBlock = some k → ¬ TF fv wv fs ws k)
    (hr : w'.ownsRow 0 31 1 fv' (fs.length + 1) (fs ++ [u])) (hk : Keep (fun k => fv.ownBlock = some k) w w') (hw : ∀ k, fv'.ownBlock = some k → fv.ownBlock = some k ∨ w.heap.size ≤ k) : Two w' fv' wv (fs ++ [u]) ws (xs ++ [x]) ys := by
  refine ⟨h.f.snoc hu hr hk, h.g.keep hk (fun k e e2 => h.apart k (.inl e2) e), fun k e e2 => ?_, ?_⟩
  · rcases HF.snoc hw k e with e | e | e
    · exact h.apart k e e2
    · exact hun k e (.inr e2)
    · exact absurd (h.g.lt k e2) (by omega)
  · rw [blks_append]
    refine List.nodup_append.2 ⟨h.nodup, ?_, fun k hk1 j hk2 e => ?_⟩
    · unfold blks
      cases hb : u.ownBlock with
      | none => rw [List.filterMap_cons_none hb]; exact List.nodup_nil
      | some k => rw [List.filterMap_cons_some hb]; simp
    · subst e
      obtain ⟨u', hu', hb⟩ := mem_blks.1 hk2
      simp at hu'
      subst hu'
      exact hun k hb (.inl (.inr hk1))
theorem Two.addG {w w' : World} {fv wv wv' : Value} {fs ws : List Value} {xs ys : List (List Int)} {u : Value} {x : List Int} (h : Two w fv wv fs ws xs ys) (hu : Ow w u x) (hun : ∀ k, u.ownBlock = some k → ¬ HF fv fs k)
    (hr : w'.ownsRow 0 31 1 wv' (ws.length + 1) (ws ++ [u])) (hk : Keep (fun k => wv.ownBlock = some k) w w') (hw : ∀ k, wv'.ownBlock = some k → wv.ownBlock = some k ∨ w.heap.size ≤ k) : Two w' fv wv' fs (ws ++ [u]) xs (ys ++ [x]) := by
  refine ⟨h.f.keep hk (fun k e e2 => h.apart k e (.inl e2)), h.g.snoc hu hr hk, fun k e e2 => ?_, h.nodup⟩
  rcases HF.snoc hw k e2 with e2 | e2 | e2
  · exact h.apart k e e2
  · exact hun k e2 e
  · exact absurd (h.f.lt k e) (by omega)

end Go.Proofs.Ytimfidhehikaiaa
