/- A log with its records, in memory; Append's closure. -/
import Derived.Test.YtikkieaokfailaaGreatDoorLgE
import Derived.Test.YtikkieaokfailaaGreatDoorDkC
namespace Go.Proofs.YtikkieaokfailaaGreatDoor
open Go.RowKit Go.Joins

/-- Records: a row of rows of bytes, all of the log's own. -/
structure RcA (w : World) (H : Nat → Prop) (v : Value) (rs : List (List Int)) : Prop where
  ex : ∃ vs, w.ownsRow 0 29 1 v rs.length vs ∧ ∀ (i : Nat) r, rs[i]? = some r → ∃ u, vs[i]? = some u ∧ w.ownsRow 0 5 1 u r.length (bc r) ∧ (∀ g, u.ownBlock = some g → H g) ∧ Bd r
  own : ∀ g, v.ownBlock = some g → H g
theorem RcA.keep {S H H' : Nat → Prop} {w w' : World} {v : Value} {rs : List (List Int)} (h : RcA w H v rs) (hk : Keep S w w') (hs : ∀ i, H i → ¬ S i) (hH : ∀ i, H i → H' i) : RcA w' H' v rs := by
  obtain ⟨⟨vs, h1, h2⟩, h3⟩ := h
  refine ⟨⟨vs, own_keep h1 hk (fun g hg => hs g (h3 g hg)), fun i r hr => ?_⟩, fun g hg => hH g (h3 g hg)⟩
  obtain ⟨u, k1, k2, k3, k4⟩ := h2 i r hr
  exact ⟨u, k1, own_keep k2 hk (fun g hg => hs g (k3 g hg)), fun g hg => hH g (k3 g hg), k4⟩
theorem rcA_nil (w : World) (H : Nat → Prop) : RcA w H (.slice none 0 0) [] := ⟨⟨[], ⟨rfl, .inl ⟨rfl, rfl⟩⟩, fun i r h => by simp at h⟩, fun g h => by cases h⟩
/-- A row's block holds what the row is of. -/
theorem own_blkT {w : World} {B sz n : Nat} {t : TypeId} {v : Value} {xs : List Value} (h : w.ownsRow B t sz v n xs) {g : Nat} (hg : v.ownBlock = some g) : ∃ cur, w.heap[g]? = some (.cells cur t (0, 0)) := by
  rcases h.2 with ⟨rfl, _⟩ | ⟨g', cap, cur, rfl, _, hh, _⟩
  · cases hg
  · have e : g' = g := by simpa [Value.ownBlock] using hg
    subst e
    exact ⟨cur, hh⟩
/-- One record more. -/
theorem RcA.app {w w' : World} {H : Nat → Prop} {v v' u : Value} {rs : List (List Int)} {r : List Int} {vs : List Value} (h1 : w.ownsRow 0 29 1 v rs.length vs) (h2 : ∀ (i : Nat) r, rs[i]? = some r → ∃ u, vs[i]? = some u ∧ w.ownsRow 0 5 1 u r.length (bc r) ∧ (∀ g, u.ownBlock = some g → H g) ∧ Bd r)
    (ho : w'.ownsRow 0 29 1 v' (rs.length + 1) (vs ++ [u])) (hk : Keep (fun k => v.ownBlock = some k) w w') (hu : w.ownsRow 0 5 1 u r.length (bc r)) (huH : ∀ g, u.ownBlock = some g → H g) (hb : Bd r) (hv' : ∀ g, v'.ownBlock = some g → H g) : RcA w' H v' (rs ++ [r]) := by
  have hvl : vs.length = rs.length := by have := h1.1; simpa using this
  have hne : ∀ u2 (r2 : List Int), w.ownsRow 0 5 1 u2 r2.length (bc r2) → ∀ g, u2.ownBlock = some g → ¬ v.ownBlock = some g := fun u2 r2 h g hg hv => by
    obtain ⟨c1, e1⟩ := own_blkT h hg
    obtain ⟨c2, e2⟩ := own_blkT h1 hv
    rw [e1] at e2
    cases e2
  refine ⟨⟨vs ++ [u], by rw [List.length_append]; exact ho, fun i r' hr => ?_⟩, hv'⟩
  by_cases hi : i < rs.length
  · rw [List.getElem?_append_left hi] at hr
    obtain ⟨u2, k1, k2, k3, k4⟩ := h2 i r' hr
    exact ⟨u2, by rw [List.getElem?_append_left (by omega)]; exact k1, own_keep k2 hk (hne u2 r' k2), k3, k4⟩
  · have hi2 : i = rs.length := by
      have := (List.getElem?_eq_some_iff.1 hr).1
      simp at this
      omega
    subst hi2
    have hr' : r' = r := by simpa using hr.symm
    subst hr'
    exact ⟨u, by rw [← hvl]; simp, own_keep hu hk (hne u r' hu), huH, hb⟩

structure Lg where
  most : Nat
  recs : List (List Int)
  ch : Ch
  dn : Bool
structure LogAt (w : World) (F H : Nat → Prop) (lb d : Nat) (l : Lg) (k : Dk) : Prop where
  ex : ∃ v, LD w F lb d l.most v l.ch l.dn k ∧ RcA w H v l.recs
  hf : ∀ i, H i → ¬ F i
  hl : ¬ H lb
  lt : ∀ i, H i → i < w.heap.size
  pf : Pf w F lb
  ph : ∀ i, H i → 0 < i
theorem LogAt.below {w w' : World} {F H : Nat → Prop} {lb d : Nat} {l : Lg} {k : Dk} (h : LogAt w F H lb d l k) (hb : Below w.heap.size w w') : LogAt w' F H lb d l k := by
  obtain ⟨v, h1, h2⟩ := h.ex
  exact ⟨⟨v, h1.below hb, h2.keep (S := fun _ => False) (Keep.ofBelow hb) (fun _ _ h => h) (fun _ h => h)⟩, h.hf, h.hl, fun i hi => Nat.lt_of_lt_of_le (h.lt i hi) hb.size, h.pf.below hb, h.ph⟩
def Lgp (w : World) (F H : Nat → Prop) (lb d : Nat) (l : Lg) (k : Dk) (w' : World) : Prop := ∃ F' H', LogAt w' F' H' lb d l k ∧ Keep (fun i => F i ∨ H i ∨ i = lb) w w' ∧ (∀ i, F' i → F i ∨ w.heap.size ≤ i) ∧ (∀ i, H' i → H i ∨ w.heap.size ≤ i)
theorem Lgp.refl {w : World} {F H : Nat → Prop} {lb d : Nat} {l : Lg} {k : Dk} (h : LogAt w F H lb d l k) : Lgp w F H lb d l k w := ⟨F, H, h, Keep.refl _ _, fun _ h => Or.inl h, fun _ h => Or.inl h⟩
theorem Lgp.from {w0 w w' : World} {F H : Nat → Prop} {lb d : Nat} {l : Lg} {k : Dk} (hb : Below w0.heap.size w0 w) (h : Lgp w F H lb d l k w') : Lgp w0 F H lb d l k w' := by
  obtain ⟨F', H', h1, h2, h3, h4⟩ := h
  exact ⟨F', H', h1, (Keep.ofBelow hb).trans h2, fun i hi => (h3 i hi).imp id (fun h => Nat.le_trans hb.size h), fun i hi => (h4 i hi).imp id (fun h => Nat.le_trans hb.size h)⟩
/-- The error's cell is written behind it. -/
theorem Lgp.err {w0 w1 : World} {o : Obj} {F H : Nat → Prop} {lb d : Nat} {l : Lg} {k : Dk} (h : Lgp (w0.alloc o) F H lb d l k w1) (hF : ∀ i, F i → i < w0.heap.size) (hH : ∀ i, H i → i < w0.heap.size) (hlb : lb < w0.heap.size) (hg : 0 < w0.heap.size) (v : Value) : Lgp w0 F H lb d l k (w1.setCell ⟨w0.heap.size, 0, none⟩ v) := by
  obtain ⟨F', H', h1, h2, h3, h4⟩ := h
  have hs : (w0.alloc o).heap.size = w0.heap.size + 1 := by simp
  have hk : Keep (fun k => k = w0.heap.size) w1 (w1.setCell ⟨w0.heap.size, 0, none⟩ v) := (Keep.refl (fun k => k = w0.heap.size) w1).setCell (p := ⟨w0.heap.size, 0, none⟩) rfl v
  have hnF : ∀ i, F' i → i ≠ w0.heap.size := fun i hi e => by
    rcases h3 i hi with h | h
    · have := hF i h; omega
    · omega
  have hnH : ∀ i, H' i → i ≠ w0.heap.size := fun i hi e => by
    rcases h4 i hi with h | h
    · have := hH i h; omega
    · omega
  obtain ⟨u, k1, k2⟩ := h1.ex
  refine ⟨F', H', ⟨⟨u, k1.keep hk hnF (by omega), k2.keep hk hnH (fun _ h => h)⟩, h1.hf, h1.hl, fun i hi => Nat.lt_of_lt_of_le (h1.lt i hi) hk.size, ⟨h1.pf.pw.keep hk (by omega), h1.pf.fl, h1.pf.ll⟩, h1.ph⟩, (((Keep.refl _ w0).alloc o).trans h2).setNew (Nat.le_refl _) v, fun i hi => (h3 i hi).imp id (fun h => by omega), fun i hi => (h4 i hi).imp id (fun h => by omega)⟩
/-- From what a call at the log's own chain leaves. -/
theorem LogAt.own {w w' : World} {F H : Nat → Prop} {lb d : Nat} {l : Lg} {k k' : Dk} {v : Value} {c' : Ch} {dn' : Bool} (h : LogAt w F H lb d l k) (hv : RcA w H v l.recs) (hp : Lcp w F lb d l.most v dn' k' lb 3 c' c' w') :
    ∃ F', LD w' F' lb d l.most v c' dn' k' ∧ RcA w' H v l.recs ∧ Keep (fun i => F i ∨ H i ∨ i = lb) w w' ∧ (∀ i, F' i → F i ∨ w.heap.size ≤ i) ∧ (∀ i, H i → ¬ F' i) ∧ Pf w' F' lb ∧ ∀ i, H i → i < w'.heap.size := by
  obtain ⟨F', h1, h2, h3⟩ := hp
  have hL := h1.L
  rw [if_pos rfl] at hL
  have hk : Keep (fun i => F i ∨ i = lb) w w' := h2.mono (fun i hi => hi.elim Or.inl (fun h => Or.inr (h.elim id id)))
  refine ⟨F', hL, hv.keep hk (fun i hi hs => hs.elim (h.hf i hi) (fun e => h.hl (by rw [← e]; exact hi))) (fun _ h => h), hk.mono (fun i hi => hi.elim Or.inl (fun h => Or.inr (Or.inr h))), h3, fun i hi hf => ?_, h.pf.next hk h3, fun i hi => Nat.lt_of_lt_of_le (h.lt i hi) hk.size⟩
  rcases h3 i hf with h4 | h4
  · exact h.hf i hi h4
  · have := h.lt i hi; omega

theorem own_sl {w : World} {B sz n : Nat} {t : TypeId} {v : Value} {xs : List Value} (h : w.ownsRow B t sz v n xs) : ∃ a c, v = .slice a n c := by
  rcases h.2 with ⟨rfl, rfl⟩ | ⟨g, cap, cur, rfl, _⟩
  · exact ⟨_, _, rfl⟩
  · exact ⟨_, _, rfl⟩
theorem exec_appW {w w' : World} {o : Oper} {ρ : Operand → Value} {s x : Operand} {v u v' : Value} (ho : o.op = .call { callee := .builtin .append, args := #[s, x], argTypes := #[30, 30] }) (hs : ρ s = v) (hx : ρ x = u)
    (hrun : (Builtin.append_ #[30, 30] o.type #[v, u]).run Tryz.prog w = .ok v' w') : (execOp ρ o).run Tryz.prog w = .ok (.value v') w' := by
  simp only [execOp, ho, resolve, invoke, builtin, Sem.run_bind, Sem.run_pure, Result.andThen_ok, List.map_toArray, List.map_cons, List.map_nil, hs, hx, hrun]
theorem infoRow : (Tryz.prog.info? 29).map (fun i => (i.zero, i.size, i.bytes)) = some (some (.slice none 0 0), 1, 24) := by kernel_rfl
set_option maxRecDepth 100000 in
theorem app_whereW {w : World} {base : Nat} {v : Value} {n : Nat} {xs : List Value} (hown : w.ownsRow base 29 1 v n xs) {ad : Addr} {c : Nat} {u : Value} (hu : u.oneCell' = true) (hr : ∀ j x, [u][j]? = some x → w.cell? (ad.add j) = some x) (hb : n ≤ 1000000) {ty : TypeId} {v' : Value} {w' : World}
    (hrun : (Builtin.append_ #[30, 30] ty #[v, .slice (some ad) 1 c]).run Tryz.prog w = .ok v' w') : v'.ownBlock = v.ownBlock ∨ v'.ownBlock = some w.heap.size := by
  obtain ⟨i0, hi, hz0, hz1, hz2⟩ := info_parts infoRow
  have hl : [u].length = 1 * i0.size := by rw [hz1]; rfl
  rcases hown.2 with ⟨rfl, rfl⟩ | ⟨g, cap, cur, rfl, hbg, hg, hnc, hcm, hcs, htake⟩
  · right
    have hr2 := run_append_nil (P := Tryz.prog) w 30 ty 29 i0 (.slice none 0 0) Tryz.underlying30 hi hz0 ad 1 c [u] hl hr (by omega) (by omega) (by rw [hz2]; omega)
    rw [hr2] at hrun
    injection hrun with e _
    rw [← e]; rfl
  · by_cases hroom : n + 1 ≤ cap
    · left
      have hr2 := run_append_room (P := Tryz.prog) w 30 ty 29 i0 Tryz.underlying30 hi g n cap cur hg ad 1 c [u] hl hr (by simpa using hu) hroom (by rw [hl, hcs, hz1]; omega)
      rw [hr2] at hrun
      injection hrun with e _
      rw [← e]; rfl
    · right
      have hr2 := run_append_grow (P := Tryz.prog) w 30 ty 29 i0 (.slice none 0 0) Tryz.underlying30 hi hz0 ⟨g, 0, none⟩ n cap xs (by rw [hown.1, hz1]) (hown.cells (g := g) rfl) ad 1 c [u] hl hr (by omega) (by omega) (growslice_fits (by omega) (by rw [hz2]; omega))
      rw [hr2] at hrun
      injection hrun with e _
      rw [← e]; rfl
theorem run_appW {w : World} (ty : TypeId) {base : Nat} {v : Value} {n : Nat} {xs : List Value} (hown : w.ownsRow base 29 1 v n xs) (a : Option Addr) (m c : Nat) (hn : n ≤ 1000000) (hbase : base ≤ w.heap.size) :
    ∃ v' w', (Builtin.append_ #[30, 30] ty #[v, .slice (some ⟨w.heap.size, 0, none⟩) 1 1]).run Tryz.prog (w.alloc (.cells #[.slice a m c] 29)) = .ok v' w' ∧ w'.ownsRow base 29 1 v' (n + 1) (xs ++ [.slice a m c]) ∧ Keep (fun k => v.ownBlock = some k) w w' ∧ (v'.ownBlock = v.ownBlock ∨ ∃ g, v'.ownBlock = some g ∧ w.heap.size ≤ g) := by
  obtain ⟨i0, hi, hz0, hz1, hz2⟩ := info_parts infoRow
  have hk0 : Keep (fun k => v.ownBlock = some k) w (w.alloc (.cells #[.slice a m c] 29)) := (Keep.refl _ _).alloc _
  have hown1 := own_keep (S := fun _ => False) hown ((Keep.refl (fun _ => False) w).alloc (.cells #[.slice a m c] 29)) (fun _ _ h => h)
  have hnw : ∀ j u, [Value.slice a m c][j]? = some u → (w.alloc (.cells #[.slice a m c] 29)).cell? ((⟨w.heap.size, 0, none⟩ : Addr).add j) = some u := fun j u hu => by
    rw [add_flat, Nat.zero_add, cell_of_block (alloc_at w (.cells #[.slice a m c] 29))]
    simpa using hu
  obtain ⟨v', w', hrun, h2, h3, _⟩ := run_append_own (P := Tryz.prog) (w.alloc (.cells #[.slice a m c] 29)) base 30 ty 29 i0 (.slice none 0 0) 1 24 Tryz.underlying30 hi hz0 hz1 hz2 rfl (by decide) v n xs hown1 ⟨w.heap.size, 0, none⟩ 1 1 [.slice a m c] (by simp) hnw (by simp [Value.oneCell']) (by unfold maxLen; omega) (by omega) (by simp; omega)
  have h4 := app_whereW hown1 (by simp [Value.oneCell']) hnw hn hrun
  refine ⟨v', w', hrun, h2, hk0.trans (Keep.ofGrown h3), ?_⟩
  rcases h4 with h4 | h4
  · exact Or.inl h4
  · exact Or.inr ⟨_, h4, by simp⟩

end Go.Proofs.YtikkieaokfailaaGreatDoor
