/- A list that is grown: what becomes of it, of the list it was, and of the others. -/
import Derived.Test.YtimfidhehikaiaaOwnS
namespace Go.Proofs.Ytimfidhehikaiaa
open Go.RowKit

theorem blks_inj : ∀ {fs : List Value}, (blks fs).Nodup → ∀ {i j : Nat} {u v : Value} {b : Nat}, fs[i]? = some u → fs[j]? = some v → u.ownBlock = some b → v.ownBlock = some b → i = j
  | [], _, _, _, _, _, _, h, _, _, _ => by simp at h
  | f :: fs, hn, i, j, u, v, b, hi, hj, hu, hv => by
    have hn' : (blks fs).Nodup := by
      unfold blks at hn ⊢
      cases e : f.ownBlock with
      | none => rw [List.filterMap_cons_none e] at hn; exact hn
      | some k => rw [List.filterMap_cons_some e] at hn; exact (List.nodup_cons.1 hn).2
    have hx : ∀ {m : Nat} {x : Value}, fs[m]? = some x → x.ownBlock = some b → f.ownBlock ≠ some b := by
      intro m x hm hb e
      unfold blks at hn
      rw [List.filterMap_cons_some e] at hn
      exact (List.nodup_cons.1 hn).1 (mem_blks.2 ⟨x, List.mem_of_getElem? hm, hb⟩)
    match i, j, hi, hj with
    | 0, 0, _, _ => rfl
    | 0, j + 1, hi, hj => simp at hi hj; subst hi; exact absurd hu (hx hj hv)
    | i + 1, 0, hi, hj => simp at hi hj; subst hj; exact absurd hv (hx hi hu)
    | i + 1, j + 1, hi, hj => simp at hi hj; rw [blks_inj hn' hi hj hu hv]

/-- The front of a row that is its own is a row of its own. -/
theorem own_pre {w : World} {lo g n N cap : Nat} {x y : List Int} (h : w.ownsRow lo 5 1 (.slice (some ⟨g, 0, none⟩) N cap) N (bc (x ++ y))) (hn : n = x.length) (hb : Bd x) : Ow w (.slice (some ⟨g, 0, none⟩) n cap) x := by
  subst hn
  have hl : N = (x ++ y).length := by have := h.1; rw [bc_len] at this; omega
  refine ⟨⟨by rw [bc_len]; omega, ?_⟩, hb⟩
  rcases h.2 with ⟨hv, _⟩ | ⟨g', cap', cur, hv, _, hh, hc, hm, hs, ht⟩
  · cases hv
  · cases hv
    rw [List.length_append] at hl
    refine .inr ⟨g, cap, cur, rfl, Nat.zero_le _, hh, by omega, hm, hs, ?_⟩
    have : (cur.toList.take (N * 1)).take (x.length * 1) = (bc (x ++ y)).take (x.length * 1) := by rw [ht]
    rw [List.take_take, bc_append, Nat.min_eq_left (by omega)] at this
    rw [this, List.take_left' (by rw [bc_len]; omega)]

/-- What an append leaves: in its place, as it was, or in a new block. -/
def Wg (w w' : World) (v v' : Value) (n m : Nat) : Prop :=
  (∃ g cap, v = .slice (some ⟨g, 0, none⟩) n cap ∧ v' = .slice (some ⟨g, 0, none⟩) (n + m) cap ∧ Keep (fun b => b = g) w w') ∨ (v' = v ∧ m = 0 ∧ w' = w) ∨ (v'.ownBlock = some w.heap.size ∧ Keep (fun _ => False) w w')

theorem keep_grown (w : World) (o : Obj) : Keep (fun _ => False) w (w.drew.alloc o) := (Keep.refl _ w).drew.alloc o

theorem bytes_grow {w : World} {base : Nat} {v : Value} {n : Nat} {xs : List Int} (hown : w.ownsRow base 5 1 v n (bc xs)) {ad : Addr} {m c : Nat} {ys : List Int} (hr : Rd w (some ad) m c ys) (hb : n + m ≤ 1000000000) {ty : TypeId} {v' : Value} {w' : World}
    (hgr : w.grownBy w' v.ownBlock) (hrun : (Builtin.append_ #[31, 31] ty #[v, .slice (some ad) m c]).run Try.prog w = .ok v' w') : Wg w w' v v' n m := by
  obtain ⟨i0, hi, hz0, hz1, hz2⟩ := info_parts Try.info5
  have hl : (bc ys).length = m * i0.size := by rw [bc_len, hr.len, hz1]; omega
  rcases hown.2 with ⟨rfl, rfl⟩ | ⟨g, cap, cur, rfl, hbg, hg, hnc, hcm, hcs, htake⟩
  · by_cases hm : m = 0
    · subst hm
      right; left
      simp [Builtin.append_, run_underlying Try.underlying31, sizeOf, typeInfo, hi, Builtin.lenOf, Builtin.firstCells, loadCells, loadCellsFrom] at hrun
      exact ⟨hrun.1.symm, rfl, hrun.2.symm⟩
    · right; right
      have hr2 := run_append_nil (P := Try.prog) w 31 ty 5 i0 (.int .u8 0) Try.underlying31 hi hz0 ad m c (bc ys) hl (hr.news rfl) (by omega) (by omega) (by rw [hz2]; omega)
      rw [hr2] at hrun
      injection hrun with e e2
      rw [← e, ← e2]; exact ⟨rfl, keep_grown _ _⟩
  · by_cases hroom : n + m ≤ cap
    · left
      have hr2 := run_append_room (P := Try.prog) w 31 ty 5 i0 Try.underlying31 hi g n cap cur hg ad m c (bc ys) hl (hr.news rfl) (bc_one ys) hroom (by rw [hl, hcs, hz1]; omega)
      rw [hr2] at hrun
      injection hrun with e _
      exact ⟨g, cap, rfl, e.symm, (Keep.ofGrown hgr).mono (fun i e => by cases e; rfl)⟩
    · right; right
      have hr2 := run_append_grow (P := Try.prog) w 31 ty 5 i0 (.int .u8 0) Try.underlying31 hi hz0 ⟨g, 0, none⟩ n cap (bc xs) (by rw [hown.1, hz1]) (hown.cells (g := g) rfl) ad m c (bc ys) hl (hr.news rfl) (by omega) (by omega) (growslice_fits (by omega) (by rw [hz2]; omega))
      rw [hr2] at hrun
      injection hrun with e e2
      rw [← e, ← e2]; exact ⟨rfl, keep_grown _ _⟩

theorem run_grow {w : World} {v : Value} {xs : List Int} (ty : TypeId) (hown : Ow w v xs) {ao : Option Addr} {m c : Nat} {ys : List Int} (hr : Rd w ao m c ys) (hb : xs.length + m ≤ 1000000000) :
    ∃ v' w', (Builtin.append_ #[31, 31] ty #[v, .slice ao m c]).run Try.prog w = .ok v' w' ∧ Ow w' v' (xs ++ ys) ∧ Wg w w' v v' xs.length m := by
  obtain ⟨v', w', hrun, h2, h3, _⟩ := run_bytes (w := w) ty hown.own hr hb (Nat.zero_le _)
  have ho := Ow.ofFrom h2 (hown.bd.append hr.bytes)
  cases ao with
  | none =>
    obtain ⟨rfl, rfl⟩ := rd_noneK hr rfl
    obtain ⟨i0, hi, hz0, hz1, hz2⟩ := info_parts Try.info5
    have hq := run_append_owned_none w 0 31 ty 5 i0 1 Try.underlying31 hi _ xs.length (bc xs) hown.own
    rw [hq] at hrun
    injection hrun with e e2
    exact ⟨v', w', by rw [hq, e, e2], ho, .inr (.inl ⟨e.symm, rfl, e2.symm⟩)⟩
  | some ad => exact ⟨v', w', hrun, ho, bytes_grow hown.own hr hb h3 hrun⟩

theorem wp_grow {w : World} {ops : Array Oper} {rest : List Oper} {o : Oper} {a : Act} {Q : Exit → Act → World → Prop} (hgd : o.guard = none) (s x : Operand)
    (ho : o.op = .call { callee := .builtin .append, args := #[s, x], argTypes := #[31, 31] })
    (v : Value) (xs : List Int) (hs : a.eval s = v) (hown : Ow w v xs)
    (ao : Option Addr) (m c : Nat) (ys : List Int) (hx : a.eval x = .slice ao m c) (hr : Rd w ao m c ys) (hb : xs.length + m ≤ 1000000000)
    (h : ∀ v' w', Ow w' v' (xs ++ ys) → Wg w w' v v' xs.length m → wpList Try.prog ops Q rest (a.put o.dst v') w') : wpList Try.prog ops Q (o :: rest) a w := by
  refine wpList_plain hgd fun K hK => ?_
  obtain ⟨v', w', hrun, h2, h3⟩ := run_grow (w := w) o.type hown hr hb
  unfold Oper.wp
  rw [run_app_op' ho hs hx hrun]
  exact hK _ _ (h v' w' h2 h3)

/-- l has grown out of v since w0, by y. -/
structure Grow (w0 w : World) (v l : Value) (x y : List Int) : Prop where
  own : Ow w l (x ++ y)
  old : Ow w v x
  lt : ∀ b, v.ownBlock = some b → b < w0.heap.size
  keep : Keep (fun b => v.ownBlock = some b) w0 w
  place : (∃ g cap, v = .slice (some ⟨g, 0, none⟩) x.length cap ∧ l = .slice (some ⟨g, 0, none⟩) (x.length + y.length) cap) ∨ (l = v ∧ y = []) ∨ (∀ b, l.ownBlock = some b → w0.heap.size ≤ b)

theorem Grow.refl {w : World} {v : Value} {x : List Int} (h : Ow w v x) : Grow w w v v x [] := ⟨by rw [List.append_nil]; exact h, h, fun b e => (h.own.lt b e).2, Keep.refl _ _, .inr (.inl ⟨rfl, rfl⟩)⟩
theorem Grow.blk {w0 w : World} {v l : Value} {x y : List Int} (h : Grow w0 w v l x y) : ∀ b, l.ownBlock = some b → v.ownBlock = some b ∨ w0.heap.size ≤ b := by
  rcases h.place with ⟨g, cap, rfl, rfl⟩ | ⟨rfl, _⟩ | h
  · exact fun b e => .inl e
  · exact fun b e => .inl e
  · exact fun b e => .inr (h b e)
theorem Grow.after {w0 w w' : World} {v l : Value} {x y : List Int} (h : Grow w0 w v l x y) (hk : Keep (fun _ => False) w w') : Grow w0 w' v l x y :=
  ⟨h.own.keep hk (fun _ _ h => h), h.old.keep hk (fun _ _ h => h), h.lt, h.keep.andThen hk (fun _ _ h => h.elim), h.place⟩

theorem Grow.step {w0 w w' : World} {v l l' : Value} {x y z : List Int} {m : Nat} (h : Grow w0 w v l x y) (ho : Ow w' l' ((x ++ y) ++ z)) (hm : z.length = m) (hw : Wg w w' l l' (x ++ y).length m) : Grow w0 w' v l' x (y ++ z) := by
  have hs := h.keep.size
  rw [List.append_assoc] at ho
  rcases hw with ⟨g, cap, hl, hl', hk⟩ | ⟨rfl, hm0, rfl⟩ | ⟨hb, hk⟩
  · have hon := ho.own
    rcases h.place with ⟨g1, cap1, hv, hl1⟩ | ⟨hlv, hy⟩ | hp
    · rw [hl1] at hl
      injection hl with e1 e2 e3
      injection e1 with e1
      injection e1 with e1
      subst e1 e3
      subst hl'
      refine ⟨ho, ?_, h.lt, h.keep.andThen hk (fun i _ e => by rw [hv, e]; rfl), .inl ⟨g1, cap1, hv, ?_⟩⟩
      · rw [hv]
        have e : (x ++ (y ++ z)).length = (x ++ y).length + m := by simp; omega
        rw [e] at hon
        exact own_pre hon rfl h.old.bd
      · congr 1; simp; omega
    · subst hlv hy
      rw [List.append_nil] at hl hl'
      subst hl'
      refine ⟨ho, ?_, h.lt, h.keep.andThen hk (fun i _ e => by rw [hl, e]; rfl), .inl ⟨g, cap, hl, ?_⟩⟩
      · rw [hl]
        have e : (x ++ ([] ++ z)).length = x.length + m := by simp; omega
        rw [e] at hon
        exact own_pre hon rfl h.old.bd
      · congr 1; simp; omega
    · have hg : w0.heap.size ≤ g := hp g (by rw [hl]; rfl)
      refine ⟨ho, h.old.keep hk (fun b e e2 => by have := h.lt b e; omega), h.lt, h.keep.andThen hk (fun i hi e => by omega), .inr (.inr (fun b e => ?_))⟩
      rw [hl'] at e; cases e; exact hg
  · have hz : z = [] := List.eq_nil_of_length_eq_zero (by omega)
    subst hz
    rw [List.append_nil] at ho ⊢
    exact ⟨ho, h.old, h.lt, h.keep, h.place⟩
  · refine ⟨ho, h.old.keep hk (fun _ _ h => h), h.lt, h.keep.andThen hk (fun _ _ h => h.elim), .inr (.inr (fun b e => ?_))⟩
    rw [hb] at e; cases e; exact hs

theorem set_getD {zs : List (List Int)} {i : Nat} : zs.set i (zs.getD i []) = zs := by
  apply List.ext_getElem?
  intro j
  by_cases h : i = j
  · subst h
    by_cases hl : i < zs.length
    · simp [List.getD, hl]
    · simp [List.getElem?_eq_none (Nat.le_of_not_lt hl)]; omega
  · rw [List.getElem?_set_ne h]

theorem Half.turn {S : Nat → Prop} {w w' : World} {fv : Value} {fs : List Value} {zs : List (List Int)} (h : Half w fv fs zs) (hn : (blks fs).Nodup) {i : Nat} {v : Value} (hi : fs[i]? = some v) (hk : Keep S w w') (hS : ∀ b, b < w.heap.size → S b → v.ownBlock = some b) (ho : Ow w' v (zs.getD i [])) : Half w' fv fs zs := by
  have hk' : Keep (fun b => v.ownBlock = some b) w w' := ⟨hk.os, hk.tape, hk.output, hk.size, fun k hl hs => hk.block k hl (fun s => hs (hS k hl s))⟩
  refine ⟨own_keep h.row hk' (fun k e e2 => row_apart h.row h.ows k (mem_of hi e2) e), ?_⟩
  have := Ows.set hk' h.ows hn hi (fun k _ e => e) ho
  rwa [set_getD] at this

/-- Lists that have grown out of the first ones, each in its own's block or in none of theirs. -/
def Ofs (fs us : List Value) : Prop := ∀ (j : Nat) (u : Value), us[j]? = some u → ∀ b, u.ownBlock = some b → (∃ v, fs[j]? = some v ∧ v.ownBlock = some b) ∨ b ∉ blks fs
theorem Ofs.nil (fs : List Value) : Ofs fs [] := fun j u h => by simp at h
theorem Ofs.snoc {fs us : List Value} (h : Ofs fs us) {v l : Value} (hv : fs[us.length]? = some v) (hl : ∀ b, l.ownBlock = some b → v.ownBlock = some b ∨ b ∉ blks fs) : Ofs fs (us ++ [l]) := by
  intro j u hj b hb
  by_cases hlt : j < us.length
  · rw [List.getElem?_append_left hlt] at hj
    exact h j u hj b hb
  · have hje : j = us.length := by
      by_cases e : j = us.length
      · exact e
      · rw [List.getElem?_eq_none (by rw [List.length_append]; simp; omega)] at hj; cases hj
    subst hje
    simp at hj
    subst hj
    exact (hl b hb).imp (fun e => ⟨v, hv, e⟩) id
/-- What is grown at place i meets those of other places nowhere. -/
theorem Ofs.apart {fs us : List Value} (h : Ofs fs us) (hn : (blks fs).Nodup) {i : Nat} {v : Value} (hv : fs[i]? = some v) {j : Nat} {u : Value} (hj : us[j]? = some u) {b : Nat} (hu : u.ownBlock = some b) (hb : v.ownBlock = some b) : j = i := by
  rcases h j u hj b hu with ⟨v', hv', hb'⟩ | hx
  · exact blks_inj hn hv' hv hb' hb
  · exact absurd (mem_of hv hb) hx

theorem Ows.cap {w : World} {g n n' c c' : Nat} {x y : List Int} (h : Ow w (.slice (some ⟨g, 0, none⟩) n c) x) (h' : Ow w (.slice (some ⟨g, 0, none⟩) n' c') y) : c = c' := by
  rcases h.own.2 with ⟨hv, _⟩ | ⟨g1, cap1, cur1, hv, _, hh1, _, _, hs1, _⟩
  · cases hv
  rcases h'.own.2 with ⟨hv', _⟩ | ⟨g2, cap2, cur2, hv', _, hh2, _, _, hs2, _⟩
  · cases hv'
  cases hv; cases hv'
  rw [hh1] at hh2
  cases hh2
  omega

theorem Ows.of {w : World} : ∀ {vs : List Value} {xs : List (List Int)}, vs.length = xs.length → (∀ j v, vs[j]? = some v → Ow w v (xs.getD j [])) → Ows w vs xs
  | [], [], _, _ => trivial
  | [], _ :: _, h, _ => by simp at h
  | _ :: _, [], h, _ => by simp at h
  | v :: vs, x :: xs, h, k => ⟨k 0 v rfl, Ows.of (by simpa using h) (fun j u hj => by have := k (j + 1) u (by simpa using hj); simpa using this)⟩

/-- Row i of fs grown by one append: the lists that have grown out of fs before stand, where row i's is a beginning of what is there now. -/
theorem Half.beside {w w' : World} {ov : Value} {os fs : List Value} {xs : List (List Int)} {i m : Nat} {v v' : Value} {x y1 y2 : List Int} (hO : Half w ov os xs) (hF : Ofs fs os) (hn : (blks fs).Nodup) (hv : fs[i]? = some v) (hov : Ow w v x) (hx : i < os.length → xs.getD i [] = x ++ y1) (hw : Wg w w' v v' x.length m) (hm : m ≠ 0) (ho : Ow w' v' (x ++ (y1 ++ y2))) : Half w' ov os xs := by
  rcases hw with ⟨g, cap, rfl, rfl, hk⟩ | ⟨_, h0, _⟩ | ⟨_, hk⟩
  · have hg := own_ty hov.own (k := g) rfl
    refine ⟨own_keep hO.row hk (fun k e e2 => ?_), Ows.of hO.ows.len (fun j u hj => ?_)⟩
    · obtain ⟨_, h1⟩ := hg
      obtain ⟨_, h2⟩ := own_ty hO.row e
      rw [e2] at h2
      exact absurd (cells_ty h1 h2) (by decide)
    · have hu := hO.ows.get hj
      by_cases e : u.ownBlock = some g
      · have hji := hF.apart hn hv hj e rfl
        subst hji
        rw [hx (List.getElem?_eq_some_iff.1 hj).1] at hu ⊢
        rcases hu.own.2 with ⟨hv', _⟩ | ⟨g1, cap1, cur1, hv', _⟩
        · rw [hv'] at e; cases e
        · rw [hv'] at e hu ⊢
          have e' : g1 = g := Option.some.inj e
          subst e'
          have hc := Ows.cap hu hov
          subst hc
          have hon := ho.own
          rw [← List.append_assoc] at hon
          have hl : ((x ++ y1) ++ y2).length = x.length + m := by
            have := hon.1
            rcases hon.2 with ⟨hq, _⟩ | ⟨g2, cap2, cur2, hq, _⟩
            · cases hq
            · injection hq with _ h2 _; omega
          rw [hl] at hon
          exact own_pre hon rfl hu.bd
      · exact hu.keep hk (fun k e1 e2 => e (by rw [e1, e2]))
  · exact absurd h0 hm
  · exact hO.keep hk (fun _ _ h => h)
/-- And fs itself stands. -/
theorem Half.grown {w w' : World} {fv : Value} {fs : List Value} {zs : List (List Int)} {i m : Nat} {v v' : Value} {y : List Int} (hF : Half w fv fs zs) (hn : (blks fs).Nodup) (hv : fs[i]? = some v) (hw : Wg w w' v v' (zs.getD i []).length m) (ho : Ow w' v' (zs.getD i [] ++ y)) : Half w' fv fs zs := by
  have hov := hF.ows.get hv
  rcases hw with ⟨g, cap, rfl, rfl, hk⟩ | ⟨_, _, rfl⟩ | ⟨_, hk⟩
  · refine hF.turn hn hv hk (fun b _ e => by rw [e]; rfl) ?_
    have hon := ho.own
    have hl : (zs.getD i [] ++ y).length = (zs.getD i []).length + m := by
      rcases hon.2 with ⟨hq, _⟩ | ⟨g2, cap2, cur2, hq, _⟩
      · cases hq
      · injection hq with _ h2 _; omega
    rw [hl] at hon
    exact own_pre hon rfl hov.bd
  · exact hF
  · exact hF.keep hk (fun _ _ h => h)
theorem Wg.keep {w w' : World} {v v' : Value} {n m : Nat} (h : Wg w w' v v' n m) : Keep (fun b => v.ownBlock = some b) w w' := by
  rcases h with ⟨g, cap, rfl, rfl, hk⟩ | ⟨_, _, rfl⟩ | ⟨_, hk⟩
  · exact hk.mono (fun b e => by rw [e]; rfl)
  · exact Keep.refl _ _
  · exact hk.mono (fun _ h => h.elim)
theorem Wg.blk {w w' : World} {v v' : Value} {n m : Nat} (h : Wg w w' v v' n m) : ∀ b, v'.ownBlock = some b → v.ownBlock = some b ∨ w.heap.size ≤ b := by
  rcases h with ⟨g, cap, rfl, rfl, hk⟩ | ⟨rfl, _, _⟩ | ⟨h, _⟩
  · exact fun b e => .inl e
  · exact fun b e => .inl e
  · intro b e; rw [h] at e; cases e; exact .inr (Nat.le_refl _)

theorem rep_of {z : List Int} {n : Nat} {c : Int} (hl : z.length = n) (h : ∀ t, t < n → z.getD t 0 = c) : z = List.replicate n c := by
  apply List.ext_getElem
  · simpa using hl
  · intro i h1 h2
    have := h i (by omega)
    rw [List.getElem_replicate]
    simpa [List.getD, List.getElem?_eq_getElem h1] using this

/-- The first k lists, each with q marks behind it. -/
def outs (zs : List (List Int)) (q k : Nat) : List (List Int) := (List.range k).map (fun i => zs.getD i [] ++ List.replicate q (mk2 i))
theorem outs_succ (zs : List (List Int)) (q k : Nat) : outs zs q (k + 1) = outs zs q k ++ [zs.getD k [] ++ List.replicate q (mk2 k)] := by unfold outs; rw [List.range_succ, List.map_append]; rfl
theorem outs_get {zs : List (List Int)} {q k i : Nat} (h : i < k) : (outs zs q k).getD i [] = zs.getD i [] ++ List.replicate q (mk2 i) := by unfold outs; simp [List.getD, h]
theorem mk_bd (i : Nat) : 0 ≤ mk i ∧ mk i ≤ 255 := by unfold mk; omega
theorem mk2_bd (i : Nat) : 0 ≤ mk2 i ∧ mk2 i ≤ 255 := by unfold mk2; omega
theorem rd_1 (w : World) (x : Int) (h : 0 ≤ x ∧ x ≤ 255) : Rd (w.alloc (.cells #[.int .u8 x] 5)) (some ⟨w.heap.size, 0, none⟩) 1 1 [x] := by
  refine ⟨rfl, Nat.le_refl _, by unfold maxLen; omega, (fun h => by cases h), (fun y hy => by simp at hy; omega), fun ad had j hj => ?_⟩
  cases had
  rw [add_flat]
  match j, hj with
  | 0, _ => simp

end Go.Proofs.Ytimfidhehikaiaa
