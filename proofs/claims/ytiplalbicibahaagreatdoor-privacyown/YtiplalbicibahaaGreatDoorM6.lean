/- Texts of one seat, one behind the other: PvZi, PvZj, PvZk, PvZl, PvZm, NmIdem, PvPa, PvPb. -/
import Derived.Test.YtiplalbicibahaaGreatDoorM5
import Derived.Test.YtiplalbicibahaaGreatDoorM3
/- privacy: slices of values of one cell each; cut, appended. -/
set_option maxRecDepth 100000
namespace Go.Proofs.YtiplalbicibahaaGreatDoor
open Go.RowKit Go.Joins Go.Shelf

structure VRd (w : World) (a : Option Addr) (n c : Nat) (xs : List Value) : Prop where
  len : xs.length = n
  cap : n ≤ c
  most : c ≤ maxLen
  flat : 0 < n → ∃ b off, a = some ⟨b, off, none⟩ ∧ ∀ j u, xs[j]? = some u → w.cell? ⟨b, off + j, none⟩ = some u
  nil0 : a = none → c = 0
theorem VRd.keep {S : Nat → Prop} {w w' : World} {a : Option Addr} {n c : Nat} {xs : List Value} (h : VRd w a n c xs) (hk : Keep S w w') (hs : ∀ ad, a = some ad → ¬ S ad.block) : VRd w' a n c xs := by
  refine ⟨h.len, h.cap, h.most, fun h0 => ?_, h.nil0⟩
  obtain ⟨b, off, e, hc⟩ := h.flat h0
  exact ⟨b, off, e, fun j u hj => hk.cell (p := ⟨b, off + j, none⟩) (hc j u hj) (hs ⟨b, off, none⟩ e)⟩
theorem VRd.below {w w' : World} {a : Option Addr} {n c : Nat} {xs : List Value} (h : VRd w a n c xs) (hb : Below w.heap.size w w') : VRd w' a n c xs := h.keep (S := fun _ => False) (Keep.ofBelow hb) (fun _ _ h => h)
theorem VRd.ofOwn {w : World} {base : Nat} {e : TypeId} {v : Value} {n : Nat} {xs : List Value} (h : w.ownsRow base e 1 v n xs) : ∃ a c, v = .slice a n c ∧ VRd w a n c xs := by
  have hl : xs.length = n := by have := h.1; omega
  rcases h.2 with ⟨hv, hn⟩ | ⟨g, cap, cur, hv, hg, hh, hnc, hm, hsz, ht⟩
  · subst hv; subst hn
    exact ⟨none, 0, rfl, hl, Nat.le_refl _, Nat.zero_le _, fun h => by omega, fun _ => rfl⟩
  · subst hv
    refine ⟨some ⟨g, 0, none⟩, cap, rfl, hl, hnc, hm, fun h0 => ⟨g, 0, rfl, fun j u hj => ?_⟩, fun e => by cases e⟩
    have hcell := h.cells (g := g) rfl j u hj
    rw [add_flat] at hcell
    exact hcell
theorem VRd.take {w : World} {a : Option Addr} {n c : Nat} {xs : List Value} (h : VRd w a n c xs) (k : Nat) (hk : k ≤ n) : VRd w a k c (xs.take k) := by
  refine ⟨by rw [List.length_take, h.len]; omega, by have := h.cap; omega, h.most, fun h0 => ?_, h.nil0⟩
  obtain ⟨b, off, e, hc⟩ := h.flat (by omega)
  refine ⟨b, off, e, fun j u hj => hc j u ?_⟩
  rw [List.getElem?_take] at hj
  split at hj
  · exact hj
  · cases hj
theorem VRd.drop {w : World} {a : Option Addr} {n c : Nat} {xs : List Value} (h : VRd w a n c xs) (k : Nat) (hk : k ≤ n) : VRd w (if c = k then a else a.map (·.add k)) (n - k) (c - k) (xs.drop k) := by
  have hm := h.most
  have hcp := h.cap
  refine ⟨by rw [List.length_drop, h.len], by omega, by omega, fun h0 => ?_, fun e => ?_⟩
  · obtain ⟨b, off, e, hc⟩ := h.flat (by omega)
    subst e
    refine ⟨b, off + k, ?_, fun j u hj => ?_⟩
    · rw [if_neg (by omega)]; show some (Addr.add _ _) = _; rw [add_flat]
    · have := hc (k + j) u (by rw [← List.getElem?_drop]; exact hj)
      rw [show off + k + j = off + (k + j) by omega]
      exact this
  · split at e
    · have := h.nil0 e; omega
    · cases ha : a with
      | none => have := h.nil0 ha; omega
      | some ad => rw [ha] at e; cases e

/-- 'append(v, x...)' of one's own row and whatever slice. -/
theorem run_appV (t e : TypeId) (z : Value) (bytes : Nat) (ht : Tryz.prog.underlying t = some (.slice e)) (hif : (Tryz.prog.info? e).map (fun i => (i.zero, i.size, i.bytes)) = some (some z, 1, bytes)) (hby : bytes ≤ 100) (hzs : z.cells.size = 1) {w : World} (ty : TypeId) {base : Nat} {v : Value} {n : Nat} {xs : List Value} (hown : w.ownsRow base e 1 v n xs) {ao : Option Addr} {m c : Nat} {ys : List Value} (hr : VRd w ao m c ys) (h1 : ∀ u ∈ ys, u.oneCell' = true) (hb : n + m ≤ 1000000) (hbase : base ≤ w.heap.size) :
    ∃ v' w', (Builtin.append_ #[t, t] ty #[v, .slice ao m c]).run Tryz.prog w = .ok v' w' ∧ w'.ownsRow base e 1 v' (n + m) (xs ++ ys) ∧ Keep (fun k => v.ownBlock = some k) w w' := by
  obtain ⟨i0, hi, hz0, hz1, hz2⟩ := info_parts hif
  cases ao with
  | none =>
    have hc0 := hr.nil0 rfl
    have hm : m = 0 := by have := hr.cap; omega
    subst hc0 hm
    have hys : ys = [] := List.eq_nil_of_length_eq_zero hr.len
    subst hys
    exact ⟨v, w, run_append_owned_none w base t ty e i0 1 ht hi v n xs hown, by simpa using hown, Keep.refl _ _⟩
  | some ad =>
    have hnew : ∀ j u, ys[j]? = some u → w.cell? (ad.add j) = some u := fun j u hu => by
      have hj : j < ys.length := (List.getElem?_eq_some_iff.1 hu).1
      obtain ⟨b, off, e, hc⟩ := hr.flat (by rw [← hr.len]; omega)
      injection e with e
      subst e
      rw [add_flat]
      exact hc j u hu
    have hb2 : (n + m) * bytes ≤ 1000000 * 100 := Nat.mul_le_mul hb hby
    obtain ⟨v', w', k0, k1, k2, _⟩ := run_append_own (P := Tryz.prog) w base t ty e i0 z 1 bytes ht hi hz0 hz1 hz2 hzs (by decide) v n xs hown ad m c ys (by rw [hr.len]; omega) hnew h1 (by unfold maxLen; omega) (by omega) hbase
    exact ⟨v', w', k0, k1, Keep.ofGrown k2⟩
theorem infoRulesG : (Tryz.prog.info? 68).map (fun i => (i.zero, i.size, i.bytes)) = some (some (.slice none 0 0), 1, 24) := by kernel_rfl
/-- Rows of values of two types lie in two blocks. -/
theorem own_apart {w : World} {b1 b2 z1 z2 : Nat} {e1 e2 : TypeId} {v1 v2 : Value} {n1 n2 : Nat} {x1 x2 : List Value} (h1 : w.ownsRow b1 e1 z1 v1 n1 x1) (h2 : w.ownsRow b2 e2 z2 v2 n2 x2) (he : e1 ≠ e2) : ∀ k, v1.ownBlock = some k → v2.ownBlock ≠ some k := by
  intro k hk1 hk2
  rcases h1.2 with ⟨rfl, _⟩ | ⟨g, cap, cur, rfl, _, hh, _⟩
  · cases hk1
  · rcases h2.2 with ⟨rfl, _⟩ | ⟨g2, cap2, cur2, rfl, _, hh2, _⟩
    · cases hk2
    · injection hk1 with hk1
      injection hk2 with hk2
      subst hk1 hk2
      have hh : w.heap[g2]? = some (.cells cur e1 (0, 0)) := hh
      rw [hh2] at hh
      injection hh with hh
      injection hh with _ t2 _
      exact he t2.symm
theorem own_notq {w : World} {b1 : Nat} {e1 : TypeId} {v1 : Value} {n1 : Nat} {x1 : List Value} (h1 : w.ownsRow b1 e1 1 v1 n1 x1) {q : Nat} {cs : Array Value} {e2 : TypeId} (hq : w.heap[q]? = some (.cells cs e2 (0, 0))) (he : e1 ≠ e2) : v1.ownBlock ≠ some q := by
  intro hk1
  rcases h1.2 with ⟨rfl, _⟩ | ⟨g, cap, cur, rfl, _, hh, _⟩
  · cases hk1
  · injection hk1 with hk1
    subst hk1
    have hh : w.heap[g]? = some (.cells cur e1 (0, 0)) := hh
    rw [hq] at hh
    injection hh with hh
    injection hh with _ t2 _
    exact he t2.symm

/-! ### rows of rows: cut, joined, turned in place -/
theorem Vr.app {w : World} {vs ws : List Value} {tss uss : List (List By)} {F : Nat → Prop} (h : Vr w vs tss F) (g : Vr w ws uss F) : Vr w (vs ++ ws) (tss ++ uss) F := by
  refine ⟨by simp [h.len, g.len], fun j v hv => ?_⟩
  by_cases hj : j < vs.length
  · rw [List.getElem?_append_left hj] at hv
    obtain ⟨a2, n2, c2, e, ht2, hf2⟩ := h.row j v hv
    refine ⟨a2, n2, c2, e, ?_, hf2⟩
    rw [List.getD_eq_getElem?_getD, List.getElem?_append_left (by rw [← h.len]; exact hj), ← List.getD_eq_getElem?_getD]
    exact ht2
  · rw [List.getElem?_append_right (by omega)] at hv
    obtain ⟨a2, n2, c2, e, ht2, hf2⟩ := g.row _ v hv
    refine ⟨a2, n2, c2, e, ?_, hf2⟩
    rw [List.getD_eq_getElem?_getD, List.getElem?_append_right (by rw [← h.len]; omega), ← h.len, ← List.getD_eq_getElem?_getD]
    exact ht2
theorem Vr.take {w : World} {vs : List Value} {tss : List (List By)} {F : Nat → Prop} (h : Vr w vs tss F) (k : Nat) : Vr w (vs.take k) (tss.take k) F := by
  refine ⟨by simp [h.len], fun j v hv => ?_⟩
  rw [List.getElem?_take] at hv
  split at hv
  · rename_i hj
    obtain ⟨a2, n2, c2, e, ht2, hf2⟩ := h.row j v hv
    refine ⟨a2, n2, c2, e, ?_, hf2⟩
    rw [List.getD_eq_getElem?_getD, List.getElem?_take, if_pos hj, ← List.getD_eq_getElem?_getD]
    exact ht2
  · cases hv
theorem Vr.drop {w : World} {vs : List Value} {tss : List (List By)} {F : Nat → Prop} (h : Vr w vs tss F) (k : Nat) : Vr w (vs.drop k) (tss.drop k) F := by
  refine ⟨by simp [h.len], fun j v hv => ?_⟩
  rw [List.getElem?_drop] at hv
  obtain ⟨a2, n2, c2, e, ht2, hf2⟩ := h.row _ v hv
  refine ⟨a2, n2, c2, e, ?_, hf2⟩
  rw [List.getD_eq_getElem?_getD, List.getElem?_drop, ← List.getD_eq_getElem?_getD]
  exact ht2
theorem Vr.one {w : World} {F : Nat → Prop} {a : Option Addr} {n c : Nat} {ts : List By} (ht : TRd w a n c ts) (hf : ∀ ad, a = some ad → F ad.block ∧ Ty w ad.block) : Vr w [.slice a n c] [ts] F := by
  have := (Vr.nil w F).snoc ht hf
  exact this
theorem Vr.set {w : World} {vs : List Value} {tss : List (List By)} {F : Nat → Prop} (h : Vr w vs tss F) (k : Nat) {a : Option Addr} {n c : Nat} {ts : List By} (ht : TRd w a n c ts) (hf : ∀ ad, a = some ad → F ad.block ∧ Ty w ad.block) : Vr w (vs.set k (.slice a n c)) (tss.set k ts) F := by
  refine ⟨by simp [h.len], fun j v hv => ?_⟩
  by_cases hj : j = k
  · subst hj
    have hl : j < vs.length := by have := (List.getElem?_eq_some_iff.1 hv).1; simpa using this
    rw [List.getElem?_set_self hl] at hv
    injection hv with hv
    refine ⟨a, n, c, hv.symm, ?_, hf⟩
    rw [List.getD_eq_getElem?_getD, List.getElem?_set_self (by rw [← h.len]; exact hl)]
    exact ht
  · rw [List.getElem?_set_ne (fun e => hj e.symm)] at hv
    obtain ⟨a2, n2, c2, e, ht2, hf2⟩ := h.row j v hv
    refine ⟨a2, n2, c2, e, ?_, hf2⟩
    rw [List.getD_eq_getElem?_getD, List.getElem?_set_ne (fun e => hj e.symm), ← List.getD_eq_getElem?_getD]
    exact ht2
theorem Vq.app {w : World} {vs ws : List Value} {tss uss : List (List Rul)} {F : Nat → Prop} (h : Vq w vs tss F) (g : Vq w ws uss F) : Vq w (vs ++ ws) (tss ++ uss) F := by
  refine ⟨by simp [h.len, g.len], fun j v hv => ?_⟩
  by_cases hj : j < vs.length
  · rw [List.getElem?_append_left hj] at hv
    obtain ⟨f, e, ht2, hf2⟩ := h.row j v hv
    refine ⟨f, e, ?_, hf2⟩
    rw [List.getD_eq_getElem?_getD, List.getElem?_append_left (by rw [← h.len]; exact hj), ← List.getD_eq_getElem?_getD]
    exact ht2
  · rw [List.getElem?_append_right (by omega)] at hv
    obtain ⟨f, e, ht2, hf2⟩ := g.row _ v hv
    refine ⟨f, e, ?_, hf2⟩
    rw [List.getD_eq_getElem?_getD, List.getElem?_append_right (by rw [← h.len]; omega), ← h.len, ← List.getD_eq_getElem?_getD]
    exact ht2
theorem Vq.take {w : World} {vs : List Value} {tss : List (List Rul)} {F : Nat → Prop} (h : Vq w vs tss F) (k : Nat) : Vq w (vs.take k) (tss.take k) F := by
  refine ⟨by simp [h.len], fun j v hv => ?_⟩
  rw [List.getElem?_take] at hv
  split at hv
  · rename_i hj
    obtain ⟨f, e, ht2, hf2⟩ := h.row j v hv
    refine ⟨f, e, ?_, hf2⟩
    rw [List.getD_eq_getElem?_getD, List.getElem?_take, if_pos hj, ← List.getD_eq_getElem?_getD]
    exact ht2
  · cases hv
theorem Vq.drop {w : World} {vs : List Value} {tss : List (List Rul)} {F : Nat → Prop} (h : Vq w vs tss F) (k : Nat) : Vq w (vs.drop k) (tss.drop k) F := by
  refine ⟨by simp [h.len], fun j v hv => ?_⟩
  rw [List.getElem?_drop] at hv
  obtain ⟨f, e, ht2, hf2⟩ := h.row _ v hv
  refine ⟨f, e, ?_, hf2⟩
  rw [List.getD_eq_getElem?_getD, List.getElem?_drop, ← List.getD_eq_getElem?_getD]
  exact ht2
theorem Vq.one {w : World} {F : Nat → Prop} {f : Rw} {rs : List Rul} (ht : RRd w f rs) (hf : ∀ g, f.1 = some g → F g) : Vq w [rsl f] [rs] F := by
  refine ⟨rfl, fun j v hv => ?_⟩
  cases j with
  | zero => injection hv with hv; exact ⟨f, hv.symm, ht, hf⟩
  | succ j => cases hv
theorem Vq.set {w : World} {vs : List Value} {tss : List (List Rul)} {F : Nat → Prop} (h : Vq w vs tss F) (k : Nat) {f : Rw} {rs : List Rul} (ht : RRd w f rs) (hf : ∀ g, f.1 = some g → F g) : Vq w (vs.set k (rsl f)) (tss.set k rs) F := by
  refine ⟨by simp [h.len], fun j v hv => ?_⟩
  by_cases hj : j = k
  · subst hj
    have hl : j < vs.length := by have := (List.getElem?_eq_some_iff.1 hv).1; simpa using this
    rw [List.getElem?_set_self hl] at hv
    injection hv with hv
    refine ⟨f, hv.symm, ?_, hf⟩
    rw [List.getD_eq_getElem?_getD, List.getElem?_set_self (by rw [← h.len]; exact hl)]
    exact ht
  · rw [List.getElem?_set_ne (fun e => hj e.symm)] at hv
    obtain ⟨f2, e, ht2, hf2⟩ := h.row j v hv
    refine ⟨f2, e, ?_, hf2⟩
    rw [List.getD_eq_getElem?_getD, List.getElem?_set_ne (fun e => hj e.symm), ← List.getD_eq_getElem?_getD]
    exact ht2
theorem Vr.one' {w : World} {vs : List Value} {tss : List (List By)} {F : Nat → Prop} (h : Vr w vs tss F) : ∀ u ∈ vs, u.oneCell' = true := fun u hu => by
  obtain ⟨j, hj⟩ := List.mem_iff_getElem?.1 hu
  obtain ⟨a, n, c, rfl, _⟩ := h.row j u hj
  rfl
theorem Vq.one' {w : World} {vs : List Value} {tss : List (List Rul)} {F : Nat → Prop} (h : Vq w vs tss F) : ∀ u ∈ vs, u.oneCell' = true := fun u hu => by
  obtain ⟨j, hj⟩ := List.mem_iff_getElem?.1 hu
  obtain ⟨f, rfl, _⟩ := h.row j u hj
  rfl
end Go.Proofs.YtiplalbicibahaaGreatDoor

/- privacy: the document's put. -/
set_option maxRecDepth 100000
namespace Go.Proofs.YtiplalbicibahaaGreatDoor
open Go.RowKit Go.Joins Go.Shelf

theorem exec_appV {w w' : World} {o : Oper} {ρ : Operand → Value} {s x : Operand} {t : TypeId} {v u v' : Value} (ho : o.op = .call { callee := .builtin .append, args := #[s, x], argTypes := #[t, t] }) (hs : ρ s = v) (hx : ρ x = u)
    (hrun : (Builtin.append_ #[t, t] o.type #[v, u]).run Tryz.prog w = .ok v' w') : (execOp ρ o).run Tryz.prog w = .ok (.value v') w' := exec_appG ho hs hx hrun
/-- 'append(s, x...)' at its place. -/
theorem wp_appV (t e : TypeId) (z : Value) (bytes : Nat) (ht : Tryz.prog.underlying t = some (.slice e)) (hif : (Tryz.prog.info? e).map (fun i => (i.zero, i.size, i.bytes)) = some (some z, 1, bytes)) (hby : bytes ≤ 100) (hzs : z.cells.size = 1) {w : World} {ops : Array Oper} {rest : List Oper} {o : Oper} {a : Act} {Q : Exit → Act → World → Prop} (hgd : o.guard = none) (s x : Operand)
    (ho : o.op = .call { callee := .builtin .append, args := #[s, x], argTypes := #[t, t] })
    (base : Nat) (v : Value) (n : Nat) (xs : List Value) (hs : a.eval s = v) (hown : w.ownsRow base e 1 v n xs) (ao : Option Addr) (m c : Nat) (ys : List Value) (hx : a.eval x = .slice ao m c) (hr : VRd w ao m c ys) (h1 : ∀ u ∈ ys, u.oneCell' = true) (hb : n + m ≤ 1000000) (hbase : base ≤ w.heap.size)
    (h : ∀ v' w', w'.ownsRow base e 1 v' (n + m) (xs ++ ys) → Keep (fun k => v.ownBlock = some k) w w' → wpList Tryz.prog ops Q rest (a.put o.dst v') w') : wpList Tryz.prog ops Q (o :: rest) a w := by
  refine wpList_plain hgd fun K hK => ?_
  obtain ⟨v', w', hrun, h2, h3⟩ := run_appV t e z bytes ht hif hby hzs o.type hown hr h1 hb hbase
  unfold Oper.wp
  simp only [execOp, ho, resolve, invoke, builtin, Sem.run_bind, Sem.run_pure, Result.andThen_ok, List.map_toArray, List.map_cons, List.map_nil, hs, hx, hrun]
  exact hK _ _ (h v' w' h2 h3)

/-- Halfway through put: the rows that are made, the rows that Lists hold now. -/
structure Mid (B : Nat) (w x : World) (q : Nat) (P : Pl) (cN cT cR nN nT nR : Value) (N : List By) (T R : List Value) : Prop where
  blk : x.heap[q]? = some (.cells (qlc P cN cT cR) 57 (0, 0))
  oN : x.ownsRow B 9 1 nN N.length (tc N)
  oT : x.ownsRow B 32 1 nT T.length T
  oR : x.ownsRow B 68 1 nR R.length R
  kp : Keep (fun i => i = q) w x
  hB : w.heap.size = B
  hq : q < B
section
variable {B : Nat} {w x x' : World} {q : Nat} {P : Pl} {cN cT cR nN nT nR v' : Value} {N N' : List By} {T R L : List Value}
theorem Mid.sz (m : Mid B w x q P cN cT cR nN nT nR N T R) : B ≤ x.heap.size := by have := m.kp.size; have := m.hB; omega
theorem Mid.start {F : Nat → Prop} {vs us : List Value} (h : QM w F q P cN cT cR vs us) (hB : w.heap.size = B) : Mid B w w q P cN cT cR (.slice none 0 0) (.slice none 0 0) (.slice none 0 0) [] [] [] :=
  ⟨h.blk, World.ownsRow_nil .., World.ownsRow_nil .., World.ownsRow_nil .., Keep.refl _ _, hB, by rw [← hB]; exact h.lt q h.fq⟩
theorem Mid.c3 (m : Mid B w x q P cN cT cR nN nT nR N T R) : x.cell? ⟨q, 3, none⟩ = some cN := by rw [cell_of_block m.blk]; rfl
theorem Mid.c4 (m : Mid B w x q P cN cT cR nN nT nR N T R) : x.cell? ⟨q, 4, none⟩ = some cT := by rw [cell_of_block m.blk]; rfl
theorem Mid.c5 (m : Mid B w x q P cN cT cR nN nT nR N T R) : x.cell? ⟨q, 5, none⟩ = some cR := by rw [cell_of_block m.blk]; rfl
theorem Mid.fz (m : Mid B w x q P cN cT cR nN nT nR N T R) (i : Nat) : x.frozen? ⟨q, i, none⟩ = false := unfrozen_of_block m.blk i
theorem Mid.on (_ : Mid B w x q P cN cT cR nN nT nR N T R) {e : TypeId} {sz : Nat} {v : Value} {n : Nat} {l : List Value} (ho : x.ownsRow B e sz v n l) : ∀ k, v.ownBlock = some k → B ≤ k := fun k hk => (ho.lt k hk).1
theorem Mid.name (m : Mid B w x q P cN cT cR nN nT nR N T R) {n : Nat} (ho : x'.ownsRow B 9 1 v' n (tc N')) (hk : Keep (fun k => nN.ownBlock = some k) x x') : Mid B w x' q P cN cT cR v' nT nR N' T R := by
  have hl : n = N'.length := by have := ho.1; rw [tc_len] at this; omega
  subst hl
  exact ⟨box_keep m.blk hk (fun e => by have := m.on m.oN q e; have := m.hq; omega), ho, own_keep m.oT hk (fun k h1 h2 => own_apart m.oT m.oN (by decide) k h1 h2), own_keep m.oR hk (fun k h1 h2 => own_apart m.oR m.oN (by decide) k h1 h2), m.kp.andThen hk (fun i hi e => by have := m.on m.oN i e; have := m.hB; omega), m.hB, m.hq⟩
theorem Mid.text (m : Mid B w x q P cN cT cR nN nT nR N T R) {n : Nat} (ho : x'.ownsRow B 32 1 v' n L) (hk : Keep (fun k => nT.ownBlock = some k) x x') : Mid B w x' q P cN cT cR nN v' nR N L R := by
  have hl : n = L.length := by have := ho.1; omega
  subst hl
  exact ⟨box_keep m.blk hk (fun e => by have := m.on m.oT q e; have := m.hq; omega), own_keep m.oN hk (fun k h1 h2 => own_apart m.oN m.oT (by decide) k h1 h2), ho, own_keep m.oR hk (fun k h1 h2 => own_apart m.oR m.oT (by decide) k h1 h2), m.kp.andThen hk (fun i hi e => by have := m.on m.oT i e; have := m.hB; omega), m.hB, m.hq⟩
theorem Mid.rule (m : Mid B w x q P cN cT cR nN nT nR N T R) {n : Nat} (ho : x'.ownsRow B 68 1 v' n L) (hk : Keep (fun k => nR.ownBlock = some k) x x') : Mid B w x' q P cN cT cR nN nT v' N T L := by
  have hl : n = L.length := by have := ho.1; omega
  subst hl
  exact ⟨box_keep m.blk hk (fun e => by have := m.on m.oR q e; have := m.hq; omega), own_keep m.oN hk (fun k h1 h2 => own_apart m.oN m.oR (by decide) k h1 h2), own_keep m.oT hk (fun k h1 h2 => own_apart m.oT m.oR (by decide) k h1 h2), ho, m.kp.andThen hk (fun i hi e => by have := m.on m.oR i e; have := m.hB; omega), m.hB, m.hq⟩
theorem Mid.set (m : Mid B w x q P cN cT cR nN nT nR N T R) {i : Nat} {u c3 c4 c5 : Value} (hb : (qlc P cN cT cR).setIfInBounds i u = qlc P c3 c4 c5) : Mid B w (x.setCell ⟨q, i, none⟩ u) q P c3 c4 c5 nN nT nR N T R := by
  have hk := setK x q i u
  have hq := m.hq
  have hn : ∀ {e : TypeId} {v : Value} {n : Nat} {l : List Value}, x.ownsRow B e 1 v n l → ∀ k, v.ownBlock = some k → ¬ k = q := fun {e v n l} ho k h1 h2 => by have := m.on ho k h1; omega
  refine ⟨?_, own_keep m.oN hk (hn m.oN), own_keep m.oT hk (hn m.oT), own_keep m.oR hk (hn m.oR), m.kp.trans hk, m.hB, m.hq⟩
  rw [← hb]
  exact block_setCell (i := i) m.blk u
theorem Mid.s3 (m : Mid B w x q P cN cT cR nN nT nR N T R) (u : Value) : Mid B w (x.setCell ⟨q, 3, none⟩ u) q P u cT cR nN nT nR N T R := m.set rfl
theorem Mid.s4 (m : Mid B w x q P cN cT cR nN nT nR N T R) (u : Value) : Mid B w (x.setCell ⟨q, 4, none⟩ u) q P cN u cR nN nT nR N T R := m.set rfl
theorem Mid.s5 (m : Mid B w x q P cN cT cR nN nT nR N T R) (u : Value) : Mid B w (x.setCell ⟨q, 5, none⟩ u) q P cN cT u nN nT nR N T R := m.set rfl
/-- The elder rows stand. -/
theorem Mid.old (m : Mid B w x q P cN cT cR nN nT nR N T R) {e : TypeId} {v : Value} {n : Nat} {l : List Value} (ho : w.ownsRow 0 e 1 v n l) {cs : Array Value} (hq : w.heap[q]? = some (.cells cs 57 (0, 0))) (he : e ≠ 57) : x.ownsRow 0 e 1 v n l :=
  own_keep ho m.kp (fun k h1 h2 => own_notq ho hq he (by rw [h1, h2]))
end
theorem tc_take (ns : List By) (k : Nat) : tc (ns.take k) = (tc ns).take k := by unfold tc; rw [List.map_take]
theorem tc_drop (ns : List By) (k : Nat) : tc (ns.drop k) = (tc ns).drop k := by unfold tc; rw [List.map_drop]
theorem tc_one' (ns : List By) : ∀ u ∈ tc ns, u.oneCell' = true := fun u hu => by obtain ⟨t, _, rfl⟩ := List.mem_map.1 hu; rfl
theorem mem_takeV {α : Type} {p : α → Prop} {l : List α} (h : ∀ u ∈ l, p u) (k : Nat) : ∀ u ∈ l.take k, p u := fun u hu => h u (List.mem_of_mem_take hu)
theorem mem_dropV {α : Type} {p : α → Prop} {l : List α} (h : ∀ u ∈ l, p u) (k : Nat) : ∀ u ∈ l.drop k, p u := fun u hu => h u (List.mem_of_mem_drop hu)
/-- What put leaves. -/
def Put (w w' : World) (q : Nat) (P : Pl) (N : List By) (T R : List Value) : Prop := ∃ vN vT vR, Mid w.heap.size w w' q P vN vT vR vN vT vR N T R

set_option maxHeartbeats 3200000 in
theorem qput_none (k r : Nat) (w : World) (F : Nat → Prop) (q : Nat) (P : Pl) (vN vT vR : Value) (vs us : List Value) (h : QM w F q P vN vT vR vs us) (hk : k ≤ (sortK P.ks).length) (hr : r ≤ (sortK P.ks).length) (hL : (sortK P.ks).length ≤ 100000) :
    Calls Tryz.prog 43 #[.pointer (some ⟨q, 0, none⟩), .int .i64 k, .int .i64 r, .string (ba []), .slice none 0 0, .slice none 0 0] w fun e w' => e = .returned (.tuple #[]) ∧ Put w w' q P ((sortK P.ks).take k ++ (sortK P.ks).drop r) (vs.take k ++ vs.drop r) (us.take k ++ us.drop r) := by
  obtain ⟨aN, dN, rfl, tN⟩ := VRd.ofOwn h.oN
  obtain ⟨aT, dT, rfl, tT⟩ := VRd.ofOwn h.oT
  obtain ⟨aR, dR, rfl, tR⟩ := VRd.ofOwn h.oR
  obtain ⟨B, HB⟩ : ∃ B, Hid (w.heap.size = B) := ⟨_, rfl⟩
  have M0 : Hid _ := Mid.start h HB.out
  have h1T : Hid (∀ u ∈ vs, u.oneCell' = true) := h.rT.one'
  have h1R : Hid (∀ u ∈ us, u.oneCell' = true) := h.rR.one'
  have nqN : Hid (∀ ad, aN = some ad → ¬ ad.block = q) := fun ad e e2 => own_notq h.oN h.blk (by decide) (by subst e; subst e2; rfl)
  have nqT : Hid (∀ ad, aT = some ad → ¬ ad.block = q) := fun ad e e2 => own_notq h.oT h.blk (by decide) (by subst e; subst e2; rfl)
  have nqR : Hid (∀ ad, aR = some ad → ¬ ad.block = q) := fun ad e e2 => own_notq h.oR h.blk (by decide) (by subst e; subst e2; rfl)
  have cN := tN.cap
  have cT := tT.cap
  have cR := tR.cap
  unfold Put
  rw [HB.out]
  obtain ⟨NS, HNS⟩ : ∃ NS, Hid (sortK P.ks = NS) := ⟨_, rfl⟩
  obtain ⟨L, HL⟩ : ∃ L, Hid ((sortK P.ks).length = L) := ⟨_, rfl⟩
  rw [HL.out] at hk hr hL tN tT tR cN cT cR M0
  rw [HNS.out] at tN ⊢
  have hLL : Hid (NS.length = L) := by show _ = _; rw [← HL.out, HNS.out]
  have M0k := M0.out.kp
  have u3 := M0.out.c3
  replace M0k : Hid _ := M0k
  have hB0 : B ≤ w.heap.size := Nat.le_of_eq HB.out.symm
  have e1 : (ba []).toList.isEmpty = true := by rw [Lib.toList_data, ba_list]; rfl
  clear h hB0
  generalize ba [] = S at *
  replace tN : Hid _ := tN
  replace tT : Hid _ := tT
  replace tR : Hid _ := tR
  have hk0 : (0 : Int) ≤ (k : Int) := by omega
  have hkN : (k : Int) ≤ (dN : Int) := by omega
  have hkT : (k : Int) ≤ (dT : Int) := by omega
  have hkR : (k : Int) ≤ (dR : Int) := by omega
  go_enter Tryz.func43, Tryz.ntmps43
  go_upto_region 4 with (at_builtin; refine wp_appV 32 9 _ 16 Tryz.underlying32 infoStr1 (by decide) rfl rfl (.tmp 15) (.tmp 22) rfl B (.slice none 0 0) 0 [] rfl (World.ownsRow_nil ..) _ k _ ((tc NS).take k) rfl (tN.out.take k hk) (mem_takeV (tc_one' NS) k) (by omega) M0.out.sz ?_; intro v3 w3 o3 k3)
  have M3 : Hid _ := M0.out.name (N' := NS.take k) (by rw [tc_take]; exact o3) k3
  have u4 := M3.out.c4
  clear u3 o3 k3 M0 M0k
  go_upto_region 5 with (at_builtin; refine wp_appV 36 32 _ 24 Tryz.underlying36 infoStrsG (by decide) rfl rfl (.tmp 24) (.tmp 31) rfl B (.slice none 0 0) 0 [] rfl (World.ownsRow_nil ..) _ k _ (vs.take k) rfl ((tT.out.keep M3.out.kp nqT.out).take k hk) (mem_takeV h1T.out k) (by omega) M3.out.sz ?_; intro v4 w4 o4 k4)
  have M4 : Hid _ := M3.out.text (L := vs.take k) o4 k4
  have u5 := M4.out.c5
  clear u4 o4 k4 M3
  go_upto_region 6 with (at_builtin; refine wp_appV 55 68 _ 24 Tryz.underlying55 infoRulesG (by decide) rfl rfl (.tmp 33) (.tmp 39) rfl B (.slice none 0 0) 0 [] rfl (World.ownsRow_nil ..) _ k _ (us.take k) rfl ((tR.out.keep M4.out.kp nqR.out).take k hk) (mem_takeV h1R.out k) (by omega) M4.out.sz ?_; intro v5 w5 o5 k5)
  have M5 : Hid _ := M4.out.rule (L := us.take k) o5 k5
  clear u5 o5 k5 M4
  go_upto_region 10 with fail
  have hkn : Hid (k ≤ L ∧ L ≤ 100000) := ⟨hk, hL⟩
  have hr0 : (0 : Int) ≤ (r : Int) := by omega
  have hrL : (r : Int) ≤ (L : Int) := by omega
  clear hk0 hkN hkT hkR hk
  obtain ⟨nN, hnN⟩ : ∃ nN, Hid ((NS.take k).length = nN) := ⟨_, rfl⟩
  have lN : Hid (nN ≤ 100001) := by show _ ≤ _; rw [← hnN.out]; simp only [List.length_take]; have := hkn.out; omega
  obtain ⟨nT, hnT⟩ : ∃ nT, Hid ((vs.take k).length = nT) := ⟨_, rfl⟩
  have lT : Hid (nT ≤ 100001) := by show _ ≤ _; rw [← hnT.out]; simp only [List.length_take]; have := hkn.out; omega
  obtain ⟨nR, hnR⟩ : ∃ nR, Hid ((us.take k).length = nR) := ⟨_, rfl⟩
  have lR : Hid (nR ≤ 100001) := by show _ ≤ _; rw [← hnR.out]; simp only [List.length_take]; have := hkn.out; omega
  have u3 := M5.out.c3
  have z10 : Hid _ := tN.out.keep M5.out.kp nqN.out
  have b10 := M5.out.oN
  rw [hnN.out] at b10
  go_upto_region 11 with (at_builtin; refine wp_appV 32 9 _ 16 Tryz.underlying32 infoStr1 (by decide) rfl rfl (.tmp 56) (.tmp 63) rfl B v3 nN (tc (NS.take k)) rfl b10 _ _ _ ((tc NS).drop r) rfl (by simpa using z10.out.drop r hr) (mem_dropV (tc_one' NS) r) (by have := lN.out; have := hkn.out; omega) M5.out.sz ?_; intro v10 w10 o10 k10; obtain ⟨a10, d10, hv10⟩ := ownR_sl o10; subst hv10; have M10 : Hid _ := M5.out.name (N' := NS.take k ++ NS.drop r) (by rw [tc_app, tc_drop]; exact o10) k10; have f10 := M10.out.fz 3; have y10 := M10.out.c3; clear o10 k10 b10)
  all_goals
    have Q10 : Hid _ := M10.out.s3 (.slice a10 (nN + (L - r)) d10)
    clear u3 f10 y10 z10 M10 M5
    generalize w10.setCell _ _ = x10 at Q10 ⊢
    have u4 := Q10.out.c4
    have z11 : Hid _ := tT.out.keep Q10.out.kp nqT.out
    have b11 := Q10.out.oT
    rw [hnT.out] at b11
    go_upto_region 12 with (at_builtin; refine wp_appV 36 32 _ 24 Tryz.underlying36 infoStrsG (by decide) rfl rfl (.tmp 69) (.tmp 76) rfl B v4 nT (vs.take k) rfl b11 _ _ _ (vs.drop r) rfl (by simpa using z11.out.drop r hr) (mem_dropV h1T.out r) (by have := lT.out; have := hkn.out; omega) Q10.out.sz ?_; intro v11 w11 o11 k11; obtain ⟨a11, d11, hv11⟩ := ownR_sl o11; subst hv11; have M11 : Hid _ := Q10.out.text (L := vs.take k ++ vs.drop r) o11 k11; have f11 := M11.out.fz 4; have y11 := M11.out.c4; clear o11 k11 b11)
    all_goals
      have Q11 : Hid _ := M11.out.s4 (.slice a11 (nT + (L - r)) d11)
      clear u4 f11 y11 z11 M11 Q10
      generalize w11.setCell _ _ = x11 at Q11 ⊢
      have u5 := Q11.out.c5
      have z12 : Hid _ := tR.out.keep Q11.out.kp nqR.out
      have b12 := Q11.out.oR
      rw [hnR.out] at b12
      go_wp2_with (at_builtin; refine wp_appV 55 68 _ 24 Tryz.underlying55 infoRulesG (by decide) rfl rfl (.tmp 82) (.tmp 88) rfl B v5 nR (us.take k) rfl b12 _ _ _ (us.drop r) rfl (by simpa using z12.out.drop r hr) (mem_dropV h1R.out r) (by have := lR.out; have := hkn.out; omega) Q11.out.sz ?_; intro v12 w12 o12 k12; obtain ⟨a12, d12, hv12⟩ := ownR_sl o12; subst hv12; have M12 : Hid _ := Q11.out.rule (L := us.take k ++ us.drop r) o12 k12; have f12 := M12.out.fz 5; have y12 := M12.out.c5; clear o12 k12 b12)
      all_goals
        have Q12 : Hid _ := M12.out.s5 (.slice a12 (nR + (L - r)) d12)
        go_end0
        exact ⟨rfl, _, _, _, by simpa using Q12.out⟩
set_option maxHeartbeats 3200000 in
theorem qput_one (s : By) (hs : s.isEmpty = false) (k r : Nat) (pa : Option Addr) (pn pc : Nat) (ra : Option Addr) (rn rc' : Nat) (w : World) (F : Nat → Prop) (q : Nat) (P : Pl) (vN vT vR : Value) (vs us : List Value) (h : QM w F q P vN vT vR vs us) (hk : k ≤ (sortK P.ks).length) (hr : r ≤ (sortK P.ks).length) (hL : (sortK P.ks).length ≤ 100000) :
    Calls Tryz.prog 43 #[.pointer (some ⟨q, 0, none⟩), .int .i64 k, .int .i64 r, .string (ba s), .slice pa pn pc, .slice ra rn rc'] w fun e w' => e = .returned (.tuple #[]) ∧ Put w w' q P ((sortK P.ks).take k ++ [s] ++ (sortK P.ks).drop r) (vs.take k ++ [.slice pa pn pc] ++ vs.drop r) (us.take k ++ [.slice ra rn rc'] ++ us.drop r) := by
  obtain ⟨aN, dN, rfl, tN⟩ := VRd.ofOwn h.oN
  obtain ⟨aT, dT, rfl, tT⟩ := VRd.ofOwn h.oT
  obtain ⟨aR, dR, rfl, tR⟩ := VRd.ofOwn h.oR
  obtain ⟨B, HB⟩ : ∃ B, Hid (w.heap.size = B) := ⟨_, rfl⟩
  have M0 : Hid _ := Mid.start h HB.out
  have h1T : Hid (∀ u ∈ vs, u.oneCell' = true) := h.rT.one'
  have h1R : Hid (∀ u ∈ us, u.oneCell' = true) := h.rR.one'
  have nqN : Hid (∀ ad, aN = some ad → ¬ ad.block = q) := fun ad e e2 => own_notq h.oN h.blk (by decide) (by subst e; subst e2; rfl)
  have nqT : Hid (∀ ad, aT = some ad → ¬ ad.block = q) := fun ad e e2 => own_notq h.oT h.blk (by decide) (by subst e; subst e2; rfl)
  have nqR : Hid (∀ ad, aR = some ad → ¬ ad.block = q) := fun ad e e2 => own_notq h.oR h.blk (by decide) (by subst e; subst e2; rfl)
  have cN := tN.cap
  have cT := tT.cap
  have cR := tR.cap
  unfold Put
  rw [HB.out]
  obtain ⟨NS, HNS⟩ : ∃ NS, Hid (sortK P.ks = NS) := ⟨_, rfl⟩
  obtain ⟨L, HL⟩ : ∃ L, Hid ((sortK P.ks).length = L) := ⟨_, rfl⟩
  rw [HL.out] at hk hr hL tN tT tR cN cT cR M0
  rw [HNS.out] at tN ⊢
  have hLL : Hid (NS.length = L) := by show _ = _; rw [← HL.out, HNS.out]
  have M0k := M0.out.kp
  have u3 := M0.out.c3
  replace M0k : Hid _ := M0k
  have hB0 : B ≤ w.heap.size := Nat.le_of_eq HB.out.symm
  have e1 : (ba s).toList.isEmpty = false := by rw [Lib.toList_data, ba_list]; exact hs
  clear h hB0
  generalize hsb : ba s = S at *
  replace hsb : Hid _ := hsb
  clear hs
  replace tN : Hid _ := tN
  replace tT : Hid _ := tT
  replace tR : Hid _ := tR
  have hk0 : (0 : Int) ≤ (k : Int) := by omega
  have hkN : (k : Int) ≤ (dN : Int) := by omega
  have hkT : (k : Int) ≤ (dT : Int) := by omega
  have hkR : (k : Int) ≤ (dR : Int) := by omega
  go_enter Tryz.func43, Tryz.ntmps43
  go_upto_region 4 with (at_builtin; refine wp_appV 32 9 _ 16 Tryz.underlying32 infoStr1 (by decide) rfl rfl (.tmp 15) (.tmp 22) rfl B (.slice none 0 0) 0 [] rfl (World.ownsRow_nil ..) _ k _ ((tc NS).take k) rfl (tN.out.take k hk) (mem_takeV (tc_one' NS) k) (by omega) M0.out.sz ?_; intro v3 w3 o3 k3)
  have M3 : Hid _ := M0.out.name (N' := NS.take k) (by rw [tc_take]; exact o3) k3
  have u4 := M3.out.c4
  clear u3 o3 k3 M0 M0k
  go_upto_region 5 with (at_builtin; refine wp_appV 36 32 _ 24 Tryz.underlying36 infoStrsG (by decide) rfl rfl (.tmp 24) (.tmp 31) rfl B (.slice none 0 0) 0 [] rfl (World.ownsRow_nil ..) _ k _ (vs.take k) rfl ((tT.out.keep M3.out.kp nqT.out).take k hk) (mem_takeV h1T.out k) (by omega) M3.out.sz ?_; intro v4 w4 o4 k4)
  have M4 : Hid _ := M3.out.text (L := vs.take k) o4 k4
  have u5 := M4.out.c5
  clear u4 o4 k4 M3
  go_upto_region 6 with (at_builtin; refine wp_appV 55 68 _ 24 Tryz.underlying55 infoRulesG (by decide) rfl rfl (.tmp 33) (.tmp 39) rfl B (.slice none 0 0) 0 [] rfl (World.ownsRow_nil ..) _ k _ (us.take k) rfl ((tR.out.keep M4.out.kp nqR.out).take k hk) (mem_takeV h1R.out k) (by omega) M4.out.sz ?_; intro v5 w5 o5 k5)
  have M5 : Hid _ := M4.out.rule (L := us.take k) o5 k5
  clear u5 o5 k5 M4
  go_upto_region 8 with (at_builtin; refine wp_appG 32 9 _ 16 Tryz.underlying32 infoStr1 (by decide) rfl rfl (.tmp 43) (.tmp 45) rfl B v3 _ (tc (NS.take k)) rfl M5.out.oN (.string S) rfl rfl (by rw [List.length_take, hLL.out]; omega) M5.out.sz ?_; intro v7 w7 o7 k7 g7 n7)
  have M7 : Hid _ := M5.out.name (N' := NS.take k ++ [s]) (by rw [tc_app]; show World.ownsRow _ _ _ _ _ _ (_ ++ [Value.string (ba s)]); rw [hsb.out]; exact o7) k7
  clear o7 k7 g7 n7 M5
  go_upto_region 9 with (at_builtin; refine wp_appG 36 32 _ 24 Tryz.underlying36 infoStrsG (by decide) rfl rfl (.tmp 47) (.tmp 49) rfl B v4 _ (vs.take k) rfl M7.out.oT (.slice pa pn pc) rfl rfl (by rw [List.length_take]; omega) M7.out.sz ?_; intro v8 w8 o8 k8 g8 n8)
  have M8 : Hid _ := M7.out.text (L := vs.take k ++ [.slice pa pn pc]) o8 k8
  clear o8 k8 g8 n8 M7
  go_upto_region 10 with (at_builtin; refine wp_appG 55 68 _ 24 Tryz.underlying55 infoRulesG (by decide) rfl rfl (.tmp 51) (.tmp 53) rfl B v5 _ (us.take k) rfl M8.out.oR (.slice ra rn rc') rfl rfl (by rw [List.length_take]; omega) M8.out.sz ?_; intro v9 w9 o9 k9 g9 n9)
  have M9 : Hid _ := M8.out.rule (L := us.take k ++ [.slice ra rn rc']) o9 k9
  clear o9 k9 g9 n9 M8
  have hkn : Hid (k ≤ L ∧ L ≤ 100000) := ⟨hk, hL⟩
  have hr0 : (0 : Int) ≤ (r : Int) := by omega
  have hrL : (r : Int) ≤ (L : Int) := by omega
  clear hk0 hkN hkT hkR hk
  obtain ⟨nN, hnN⟩ : ∃ nN, Hid ((NS.take k ++ [s]).length = nN) := ⟨_, rfl⟩
  have lN : Hid (nN ≤ 100001) := by show _ ≤ _; rw [← hnN.out]; simp only [List.length_append, List.length_take, List.length_cons, List.length_nil]; have := hkn.out; omega
  obtain ⟨nT, hnT⟩ : ∃ nT, Hid ((vs.take k ++ [Value.slice pa pn pc]).length = nT) := ⟨_, rfl⟩
  have lT : Hid (nT ≤ 100001) := by show _ ≤ _; rw [← hnT.out]; simp only [List.length_append, List.length_take, List.length_cons, List.length_nil]; have := hkn.out; omega
  obtain ⟨nR, hnR⟩ : ∃ nR, Hid ((us.take k ++ [Value.slice ra rn rc']).length = nR) := ⟨_, rfl⟩
  have lR : Hid (nR ≤ 100001) := by show _ ≤ _; rw [← hnR.out]; simp only [List.length_append, List.length_take, List.length_cons, List.length_nil]; have := hkn.out; omega
  have u3 := M9.out.c3
  have z10 : Hid _ := tN.out.keep M9.out.kp nqN.out
  have b10 := M9.out.oN
  rw [hnN.out] at b10
  go_upto_region 11 with (at_builtin; refine wp_appV 32 9 _ 16 Tryz.underlying32 infoStr1 (by decide) rfl rfl (.tmp 56) (.tmp 63) rfl B v7 nN (tc (NS.take k ++ [s])) rfl b10 _ _ _ ((tc NS).drop r) rfl (by simpa using z10.out.drop r hr) (mem_dropV (tc_one' NS) r) (by have := lN.out; have := hkn.out; omega) M9.out.sz ?_; intro v10 w10 o10 k10; obtain ⟨a10, d10, hv10⟩ := ownR_sl o10; subst hv10; have M10 : Hid _ := M9.out.name (N' := NS.take k ++ [s] ++ NS.drop r) (by rw [tc_app, tc_drop]; exact o10) k10; have f10 := M10.out.fz 3; have y10 := M10.out.c3; clear o10 k10 b10)
  all_goals
    have Q10 : Hid _ := M10.out.s3 (.slice a10 (nN + (L - r)) d10)
    clear u3 f10 y10 z10 M10 M9
    generalize w10.setCell _ _ = x10 at Q10 ⊢
    have u4 := Q10.out.c4
    have z11 : Hid _ := tT.out.keep Q10.out.kp nqT.out
    have b11 := Q10.out.oT
    rw [hnT.out] at b11
    go_upto_region 12 with (at_builtin; refine wp_appV 36 32 _ 24 Tryz.underlying36 infoStrsG (by decide) rfl rfl (.tmp 69) (.tmp 76) rfl B v8 nT (vs.take k ++ [Value.slice pa pn pc]) rfl b11 _ _ _ (vs.drop r) rfl (by simpa using z11.out.drop r hr) (mem_dropV h1T.out r) (by have := lT.out; have := hkn.out; omega) Q10.out.sz ?_; intro v11 w11 o11 k11; obtain ⟨a11, d11, hv11⟩ := ownR_sl o11; subst hv11; have M11 : Hid _ := Q10.out.text (L := vs.take k ++ [Value.slice pa pn pc] ++ vs.drop r) o11 k11; have f11 := M11.out.fz 4; have y11 := M11.out.c4; clear o11 k11 b11)
    all_goals
      have Q11 : Hid _ := M11.out.s4 (.slice a11 (nT + (L - r)) d11)
      clear u4 f11 y11 z11 M11 Q10
      generalize w11.setCell _ _ = x11 at Q11 ⊢
      have u5 := Q11.out.c5
      have z12 : Hid _ := tR.out.keep Q11.out.kp nqR.out
      have b12 := Q11.out.oR
      rw [hnR.out] at b12
      go_wp2_with (at_builtin; refine wp_appV 55 68 _ 24 Tryz.underlying55 infoRulesG (by decide) rfl rfl (.tmp 82) (.tmp 88) rfl B v9 nR (us.take k ++ [Value.slice ra rn rc']) rfl b12 _ _ _ (us.drop r) rfl (by simpa using z12.out.drop r hr) (mem_dropV h1R.out r) (by have := lR.out; have := hkn.out; omega) Q11.out.sz ?_; intro v12 w12 o12 k12; obtain ⟨a12, d12, hv12⟩ := ownR_sl o12; subst hv12; have M12 : Hid _ := Q11.out.rule (L := us.take k ++ [Value.slice ra rn rc'] ++ us.drop r) o12 k12; have f12 := M12.out.fz 5; have y12 := M12.out.c5; clear o12 k12 b12)
      all_goals
        have Q12 : Hid _ := M12.out.s5 (.slice a12 (nR + (L - r)) d12)
        go_end0
        exact ⟨rfl, _, _, _, by simpa using Q12.out⟩
end Go.Proofs.YtiplalbicibahaaGreatDoor

/- privacy: what the document's Set and Drop leave. -/
set_option maxRecDepth 100000
namespace Go.Proofs.YtiplalbicibahaaGreatDoor
open Go.RowKit Go.Joins Go.Shelf

def Qq (w : World) (F : Nat → Prop) (q : Nat) (P' : Pl) (w' : World) : Prop := ∃ F', QAt w' F' q P' ∧ Keep F w w' ∧ (∀ i, F' i → F i ∨ w.heap.size ≤ i)
theorem Qq.ofBelow {w w' : World} {F : Nat → Prop} {q : Nat} {P : Pl} (h : QAt w F q P) (hb : Below w.heap.size w w') : Qq w F q P w' := ⟨F, h.below hb, Keep.ofBelow hb, fun _ h => Or.inl h⟩
theorem Put.as {w w' : World} {q : Nat} {P P' : Pl} {N : List By} {T R : List Value} (h : Put w w' q P N T R) (h1 : P'.li = P.li) (h2 : P'.ru = P.ru) (h3 : P'.us = P.us) : Put w w' q P' N T R := by
  obtain ⟨a, b, c, m⟩ := h
  refine ⟨a, b, c, ⟨?_, m.oN, m.oT, m.oR, m.kp, m.hB, m.hq⟩⟩
  have := m.blk
  unfold qlc at this ⊢
  rw [h1, h2, h3]
  exact this
/-- Where rows of Lists' may lie ahead of a put. -/
def Ahead (w w1 : World) (F : Nat → Prop) (q : Nat) : Nat → Prop := fun i => i < w1.heap.size ∧ i ≠ q ∧ (F i ∨ w.heap.size ≤ i)
section
variable {w w1 w' : World} {F : Nat → Prop} {q : Nat} {P P' : Pl} {vN vT vR : Value} {vs us : List Value}
theorem QM.aheadT (h : QM w F q P vN vT vR vs us) (hb : Below w.heap.size w w1) : Vr w1 vs ((sortK P.ks).map (textsK P)) (Ahead w w1 F q) :=
  h.rT.keep (S := fun _ => False) (Keep.ofBelow hb) (fun _ _ e => e) (fun i hi => ⟨by have := h.lt i hi.1; have := hb.size; omega, hi.2.1, Or.inl hi.1⟩)
theorem QM.aheadR (h : QM w F q P vN vT vR vs us) (hb : Below w.heap.size w w1) : Vq w1 us ((sortK P.ks).map fun k => (P.m k).getD []) (Ahead w w1 F q) :=
  h.rR.keep (S := fun _ => False) (Keep.ofBelow hb) (fun _ _ e => e) (fun i hi => ⟨by have := h.lt i hi.1; have := hb.size; omega, hi.2.1, Or.inl hi.1⟩)
theorem QM.rebuilt (h : QM w F q P vN vT vR vs us) (hb : Below w.heap.size w w1) {N : List By} {T R : List Value} (hp : Put w1 w' q P' N T R)
    (hN : sortK P'.ks = N) (hT : Vr w1 T (N.map (textsK P')) (Ahead w w1 F q)) (hR : Vq w1 R (N.map fun k => (P'.m k).getD []) (Ahead w w1 F q))
    (hnd : P'.ks.Nodup) (hmem : ∀ s, (P'.m s).isSome = true ↔ s ∈ P'.ks) : Qq w F q P' w' := by
  obtain ⟨nN, nT, nR, m⟩ := hp
  have hs1 := hb.size
  have hs2 := m.kp.size
  have lN := fun i e => m.oN.lt i e
  have lT := fun i e => m.oT.lt i e
  have lR := fun i e => m.oR.lt i e
  have tl : T.length = (sortK P'.ks).length := by rw [hT.len, List.length_map, hN]
  have rl : R.length = (sortK P'.ks).length := by rw [hR.len, List.length_map, hN]
  refine ⟨fun i => F i ∨ (w.heap.size ≤ i ∧ i < w'.heap.size), ⟨nN, nT, nR, T, R, ⟨m.blk, ?_, ?_, ?_, ?_, ?_, Or.inl h.fq, ?_, ?_, ?_, ?_, hnd, hmem⟩⟩, (Keep.ofBelow hb).trans (m.kp.mono (fun i e => by rw [e]; exact h.fq)), fun i hi => hi.imp id (fun k => k.1)⟩
  · rw [hN]; exact own_weak m.oN (Nat.zero_le _)
  · rw [← tl]; exact own_weak m.oT (Nat.zero_le _)
  · rw [← rl]; exact own_weak m.oR (Nat.zero_le _)
  · rw [hN]
    exact hT.keep m.kp (fun i hi e => hi.2.1 e) (fun i hi => ⟨hi.2.2.imp id (fun e => ⟨e, by have := hi.1; omega⟩), hi.2.1, fun e => by have := (lT i e).1; have := hi.1; omega, fun e => by have := (lR i e).1; have := hi.1; omega⟩)
  · rw [hN]
    exact hR.keep m.kp (fun i hi e => hi.2.1 e) (fun i hi => ⟨hi.2.2.imp id (fun e => ⟨e, by have := hi.1; omega⟩), hi.2.1, fun e => by have := (lT i e).1; have := hi.1; omega, fun e => by have := (lR i e).1; have := hi.1; omega⟩)
  · exact fun i e => Or.inr ⟨by have := (lN i e).1; omega, (lN i e).2⟩
  · exact fun i e => Or.inr ⟨by have := (lT i e).1; omega, (lT i e).2⟩
  · exact fun i e => Or.inr ⟨by have := (lR i e).1; omega, (lR i e).2⟩
  · intro i hi
    rcases hi with e | e
    · have := h.lt i e; omega
    · exact e.2
theorem put_nd (h : QM w F q P vN vT vR vs us) (s : By) (rs : List Rul) : (putP P s rs).ks.Nodup := by
  unfold putP
  by_cases hs : (P.m s).isSome = true
  · rw [if_pos hs]; exact h.nd
  · rw [if_neg hs]
    exact List.nodup_cons.2 ⟨fun e => hs ((h.mem s).2 e), h.nd⟩
theorem put_mem (h : QM w F q P vN vT vR vs us) (s : By) (rs : List Rul) : ∀ u, ((putP P s rs).m u).isSome = true ↔ u ∈ (putP P s rs).ks := fun u => by
  unfold putP
  dsimp only
  by_cases hu : u = s
  · subst hu
    rw [putM_same]
    by_cases hs : (P.m u).isSome = true
    · rw [if_pos hs]; simp [(h.mem u).1 hs]
    · rw [if_neg hs]; simp
  · rw [putM_other _ _ hu, h.mem u]
    by_cases hs : (P.m s).isSome = true
    · rw [if_pos hs]
    · rw [if_neg hs]; simp [hu]
/-- A name more. -/
theorem QM.putNew (h : QM w F q P vN vT vR vs us) (hb : Below w.heap.size w w1) (s : By) (rs : List Rul) (hs : (P.m s).isSome = false) {pa : Option Addr} {pn pc : Nat} (ht : TRd w1 pa pn pc (rs.map writtenR)) (hta : ∀ ad, pa = some ad → (w.heap.size ≤ ad.block ∧ ad.block < w1.heap.size) ∧ Ty w1 ad.block) {f : Rw} (hf : RRd w1 f rs) (hfa : ∀ g, f.1 = some g → w.heap.size ≤ g ∧ g < w1.heap.size)
    (hp : Put w1 w' q P ((sortK P.ks).take (atK (sortK P.ks) s) ++ [s] ++ (sortK P.ks).drop (atK (sortK P.ks) s)) (vs.take (atK (sortK P.ks) s) ++ [.slice pa pn pc] ++ vs.drop (atK (sortK P.ks) s)) (us.take (atK (sortK P.ks) s) ++ [rsl f] ++ us.drop (atK (sortK P.ks) s))) : Qq w F q (putP P s rs) w' := by
  have hns : s ∉ P.ks := fun e => by rw [(h.mem s).2 e] at hs; cases hs
  have hns2 : s ∉ sortK P.ks := fun e => hns (sortK_mem.1 e)
  have hq : q < w.heap.size := h.lt q h.fq
  have hks : (putP P s rs).ks = s :: P.ks := by unfold putP; rw [if_neg (by rw [hs]; decide)]
  have hN : sortK (putP P s rs).ks = (sortK P.ks).take (atK (sortK P.ks) s) ++ [s] ++ (sortK P.ks).drop (atK (sortK P.ks) s) := by
    rw [List.append_assoc, List.singleton_append]
    exact sort_put h.nd hns _ (put_nd h s rs) (fun x => by rw [hks, List.mem_cons])
  refine h.rebuilt (P' := putP P s rs) hb (hp.as rfl rfl rfl) hN ?_ ?_ (put_nd h s rs) (put_mem h s rs)
  · rw [map_put (textsK P) (textsK (putP P s rs)) hns2 (putP_texts P s rs), putP_self]
    have hA := h.aheadT hb
    exact ((hA.take _).app (Vr.one ht (fun ad e => ⟨⟨(hta ad e).1.2, by have := (hta ad e).1.1; omega, Or.inr (hta ad e).1.1⟩, (hta ad e).2⟩))).app (hA.drop _)
  · rw [map_put (fun k => (P.m k).getD []) (fun k => ((putP P s rs).m k).getD []) hns2 (putP_rules P s rs), putP_mine]
    have hA := h.aheadR hb
    exact ((hA.take _).app (Vq.one hf (fun g e => ⟨(hfa g e).2, by have := (hfa g e).1; omega, Or.inr (hfa g e).1⟩))).app (hA.drop _)
/-- A name is gone. -/
theorem QM.putGone (h : QM w F q P vN vT vR vs us) (hb : Below w.heap.size w w1) (s : By) (hs : (P.m s).isSome = true)
    (hp : Put w1 w' q P ((sortK P.ks).take (atK (sortK P.ks) s) ++ (sortK P.ks).drop (atK (sortK P.ks) s + 1)) (vs.take (atK (sortK P.ks) s) ++ vs.drop (atK (sortK P.ks) s + 1)) (us.take (atK (sortK P.ks) s) ++ us.drop (atK (sortK P.ks) s + 1))) : Qq w F q (dropP P s) w' := by
  have hms : s ∈ P.ks := (h.mem s).1 hs
  have hms2 : s ∈ sortK P.ks := sortK_mem.2 hms
  have hasc := asc_sortK h.nd
  refine h.rebuilt (P' := dropP P s) hb (hp.as rfl rfl rfl) (sort_drop h.nd hms) ?_ ?_ (h.nd.filter _) (fun u => ?_)
  · rw [map_drop (textsK P) (textsK (dropP P s)) hasc hms2 (dropP_texts P s)]
    have hA := h.aheadT hb
    exact (hA.take _).app (hA.drop _)
  · rw [map_drop (fun k => (P.m k).getD []) (fun k => ((dropP P s).m k).getD []) hasc hms2 (dropP_rules P s)]
    have hA := h.aheadR hb
    exact (hA.take _).app (hA.drop _)
  · unfold dropP dropK
    dsimp only
    by_cases hu : u = s
    · subst hu; rw [putM_same]; simp
    · rw [putM_other _ _ hu, h.mem u]; simp [hu]
/-- A name that is there: its rows are turned in place. -/
theorem QM.turned {gT gR : Nat} {n cT cR : Nat} (h : QM w F q P vN (.slice (some ⟨gT, 0, none⟩) n cT) (.slice (some ⟨gR, 0, none⟩) n cR) vs us) (hb : Below w.heap.size w w1) (s : By) (rs : List Rul) (hs : (P.m s).isSome = true) {pa : Option Addr} {pn pc : Nat} (ht : TRd w1 pa pn pc (rs.map writtenR)) (hta : ∀ ad, pa = some ad → (w.heap.size ≤ ad.block ∧ ad.block < w1.heap.size) ∧ Ty w1 ad.block) {f : Rw} (hf : RRd w1 f rs) (hfa : ∀ g, f.1 = some g → w.heap.size ≤ g ∧ g < w1.heap.size)
    (hw' : w' = (w1.setCell ⟨gT, atK (sortK P.ks) s, none⟩ (.slice pa pn pc)).setCell ⟨gR, atK (sortK P.ks) s, none⟩ (rsl f)) : Qq w F q (putP P s rs) w' := by
  subst hw'
  generalize hk0 : atK (sortK P.ks) s = k
  have hms : s ∈ P.ks := (h.mem s).1 hs
  have hms2 : s ∈ sortK P.ks := sortK_mem.2 hms
  have hasc := asc_sortK h.nd
  have h1 := h.below hb
  have hks : (putP P s rs).ks = P.ks := by unfold putP; rw [if_pos hs]
  have nTR : gT ≠ gR := fun e => own_apart h1.oT h1.oR (by decide) gT rfl (by rw [e]; rfl)
  have qT : q ≠ gT := fun e => own_notq h1.oT h1.blk (by decide) (by rw [e]; rfl)
  have qR : q ≠ gR := fun e => own_notq h1.oR h1.blk (by decide) (by rw [e]; rfl)
  have kT := setK w1 gT k (.slice pa pn pc)
  have kR := setK (w1.setCell ⟨gT, k, none⟩ (.slice pa pn pc)) gR k (rsl f)
  have kk : Keep (fun i => i = gT ∨ i = gR) w1 ((w1.setCell ⟨gT, k, none⟩ (.slice pa pn pc)).setCell ⟨gR, k, none⟩ (rsl f)) := (kT.mono (fun i e => Or.inl e)).trans (kR.mono (fun i e => Or.inr e))
  have oN := own_keep h1.oN kk (fun i e1 e2 => e2.elim (fun e => own_apart h1.oN h1.oT (by decide) i e1 (by rw [e]; rfl)) (fun e => own_apart h1.oN h1.oR (by decide) i e1 (by rw [e]; rfl)))
  have hnn : n = (sortK P.ks).length := by
    rcases h1.oT.2 with ⟨hv, _⟩ | ⟨g', cap', cur, hv, _⟩
    · cases hv
    · injection hv
  have hb2 := h1.blk
  subst hnn
  have oT := own_keep (h1.oT.stored k (.slice pa pn pc)).1 kR (fun i e1 e2 => nTR (Option.some.inj (show some gT = some gR from e1.trans (by rw [e2]))))
  have oR := ((own_keep h1.oR kT (fun i e1 e2 => nTR (e2.symm.trans (Option.some.inj (show some i = some gR from e1.symm))))).stored k (rsl f)).1
  have hz := kk.size
  have hsz := hb.size
  have hq : q < w.heap.size := h.lt q h.fq
  have lT : gT < w.heap.size := h.lt gT (h.fT gT rfl)
  have lR : gR < w.heap.size := h.lt gR (h.fR gR rfl)
  refine ⟨fun i => F i ∨ (w.heap.size ≤ i ∧ i < w1.heap.size), ⟨vN, _, _, vs.set k (.slice pa pn pc), us.set k (rsl f), ⟨box_keep h1.blk kk (fun e => e.elim qT qR), by rw [hks]; exact oN, by rw [hks]; exact oT, by rw [hks]; exact oR, ?_, ?_, Or.inl h.fq, fun i e => Or.inl (h.fN i e), fun i e => Or.inl (h.fT i e), fun i e => Or.inl (h.fR i e), ?_, put_nd h s rs, put_mem h s rs⟩⟩, (Keep.ofBelow hb).trans (kk.mono (fun i e => e.elim (fun e => by rw [e]; exact h.fT gT rfl) (fun e => by rw [e]; exact h.fR gR rfl))), fun i hi => hi.imp id (fun e => e.1)⟩
  · rw [hks, map_set (textsK P) (textsK (putP P s rs)) hasc hms2 (putP_texts P s rs), putP_self, hk0]
    refine Vr.set ?_ k (ht.keep kk (fun ad e e2 => ?_)) (fun ad e => ⟨⟨Or.inr (hta ad e).1, by have := (hta ad e).1.1; omega, fun e2 => ?_, fun e2 => ?_⟩, (hta ad e).2.keep kk (fun e2 => by have := (hta ad e).1.1; omega)⟩)
    · exact h1.rT.keep kk (fun i hi e => e.elim (fun e => hi.2.2.1 (by rw [e]; rfl)) (fun e => hi.2.2.2 (by rw [e]; rfl))) (fun i hi => ⟨Or.inl hi.1, hi.2.1, hi.2.2.1, hi.2.2.2⟩)
    · have := (hta ad e).1.1; omega
    · have := (hta ad e).1.1; have e3 : gT = ad.block := Option.some.inj e2; omega
    · have := (hta ad e).1.1; have e3 : gR = ad.block := Option.some.inj e2; omega
  · rw [hks, map_set (fun k => (P.m k).getD []) (fun k => ((putP P s rs).m k).getD []) hasc hms2 (putP_rules P s rs), putP_mine, hk0]
    refine Vq.set ?_ k (hf.keep kk (fun g e e2 => ?_)) (fun g e => ⟨Or.inr (hfa g e), by have := (hfa g e).1; omega, fun e2 => ?_, fun e2 => ?_⟩)
    · exact h1.rR.keep kk (fun i hi e => e.elim (fun e => hi.2.2.1 (by rw [e]; rfl)) (fun e => hi.2.2.2 (by rw [e]; rfl))) (fun i hi => ⟨Or.inl hi.1, hi.2.1, hi.2.2.1, hi.2.2.2⟩)
    · have := (hfa g e).1; omega
    · have := (hfa g e).1; have e3 : gT = g := Option.some.inj e2; omega
    · have := (hfa g e).1; have e3 : gR = g := Option.some.inj e2; omega
  · intro i hi
    rcases hi with e | e
    · have := h.lt i e; omega
    · omega
end
end Go.Proofs.YtiplalbicibahaaGreatDoor

/- privacy: the document's Set and Drop. -/
set_option maxRecDepth 100000
namespace Go.Proofs.YtiplalbicibahaaGreatDoor
open Go.RowKit Go.Joins Go.Shelf

set_option maxHeartbeats 1600000 in
theorem qset_1 (s : By) (v : Value) (w : World) (F : Nat → Prop) (q : Nat) (P : Pl) (h : QAt w F q P) (hs : s.length ≤ 1000000) (h0 : nameE s ≠ 0) :
    Calls Tryz.prog 19 #[.pointer (some ⟨q, 0, none⟩), .string (ba s), v] w fun e w' => e = .returned (.int .i64 (nameE s : Nat)) ∧ Qq w F q P w' := by
  have cW := qWord_any (ba s) w (by rw [ba_size]; omega)
  rw [ba_list] at cW
  have HH : Hid (QAt w F q P) := h
  clear h hs
  generalize nameE s = ne at *
  have hd : ((ne : Int) != 0) = true := by simp; omega
  clear h0
  go_enter Tryz.func19, Tryz.ntmps19
  go_wp2_with (go_at_call 37; refine cW.mono ?_; clear cW; rintro e w1 ⟨rfl, hw1⟩; replace hw1 := hw1.symm; subst hw1)
  go_ret
  exact ⟨rfl, Qq.ofBelow HH.out (Below.refl _ _)⟩

theorem qb4 {w : World} {q : Nat} {P : Pl} {vN vT vR : Value} (h : w.heap[q]? = some (.cells (qlc P vN vT vR) 57 (0, 0))) : w.cell? ⟨q, 4, none⟩ = some vT := by rw [cell_of_block h]; rfl
theorem qb5 {w : World} {q : Nat} {P : Pl} {vN vT vR : Value} (h : w.heap[q]? = some (.cells (qlc P vN vT vR) 57 (0, 0))) : w.cell? ⟨q, 5, none⟩ = some vR := by rw [cell_of_block h]; rfl
theorem own_some {w : World} {B sz n : Nat} {e : TypeId} {v : Value} {xs : List Value} (h : w.ownsRow B e sz v n xs) (hn : 0 < n) : ∃ g c, v = .slice (some ⟨g, 0, none⟩) n c := by
  rcases h.2 with ⟨_, h0⟩ | ⟨g, cap, cur, hv, _⟩
  · omega
  · exact ⟨g, cap, hv⟩
theorem name_some {s : By} (h : nameE s = 0) : s.isEmpty = false := by
  unfold nameE at h
  split at h
  · cases h
  · split at h
    · cases h
    · rename_i h2
      cases s with
      | nil => exact absurd (Or.inl rfl) h2
      | cons a r => rfl
set_option maxHeartbeats 3200000 in
theorem qset_2 (s : By) (a : Option Addr) (n c : Nat) (ts : List By) (w : World) (F : Nat → Prop) (q : Nat) (P : Pl) (h : QAt w F q P) (hs : s.length ≤ 1000000) (hR : TRd w a n c ts) (hn : n ≤ 1000) (hts : ∀ t ∈ ts, t.length ≤ 2000000) (hk : P.ks.length ≤ 1000) (h0 : nameE s = 0) :
    Calls Tryz.prog 19 #[.pointer (some ⟨q, 0, none⟩), .string (ba s), .slice a n c] w fun e w' => e = .returned (.int .i64 ((setR P s ts).1 : Nat)) ∧ Qq w F q (setR P s ts).2 w' := by
  obtain ⟨vN, vT, vR, vs, us, h⟩ := h
  have Hn : Hid (ts.length = n) := hR.len
  have HH : Hid (QM w F q P vN vT vR vs us) := h
  have hse := name_some h0
  have HBad : Hid ((readR ts).2 ≠ 0 → setR P s ts = ((readR ts).2, P)) := fun hx => by unfold setR; rw [if_neg (by simp [h0]), if_pos hx]
  have HOk : Hid ((readR ts).2 = 0 → setR P s ts = if fullR P s n = true then (8, P) else (0, putP P s (readR ts).1)) := fun hx => by
    unfold setR; rw [if_neg (by simp [h0]), if_neg (by simp [hx]), Hn.out]
  have cW := qWord_any (ba s) w (by rw [ba_size]; omega)
  rw [ba_list, h0] at cW
  replace hse : Hid _ := hse
  replace hk : Hid _ := hk
  replace hts : Hid _ := hts
  generalize hST : setR P s ts = ST at HBad HOk ⊢
  clear h h0 hs hST
  go_enter Tryz.func19, Tryz.ntmps19
  go_upto_region 7 with (go_at_call 37; refine cW.mono ?_; clear cW; rintro e w1 ⟨rfl, hw1⟩; replace hw1 := hw1.symm; subst hw1)
  go_loopw [8, 9, 10, 11, 12] (fun s8 s9 s10 _ _ wr => ∃ (j : Nat) (v u : Value), s8 = v ∧ s9 = u ∧ s10 = .int .i64 j ∧ j ≤ n ∧ Hid (∀ p ∈ ts.take j, (parseR p).2 = 0) ∧ Hid (wr.ownsRow w.heap.size 72 5 v j (rcs ((ts.take j).map fun p => (parseR p).1))) ∧ Hid (wr.ownsRow w.heap.size 9 1 u j (tc ((ts.take j).map fun p => writtenR (parseR p).1))) ∧ Hid (Below w.heap.size w wr)) (fun _ _ s10 _ _ _ => n - (intOf s10).toNat)
  case atStart =>
    exact ⟨0, _, _, rfl, rfl, rfl, by omega, fun p hp => by simp at hp, World.ownsRow_nil _ _ _ _, World.ownsRow_nil _ _ _ _, Below.refl _ _⟩
  case round =>
    obtain ⟨j, v, u, h8, h9, rfl, hjn, HP, HR, HT, HB⟩ := hrel
    replace h8 := h8.symm
    subst h8
    replace h9 := h9.symm
    subst h9
    by_cases hlt : j < n
    · have hcl : (j : Int) < (n : Int) := by omega
      obtain ⟨b, off, rfl, hce⟩ := (hR.below HB.out).flat (by omega)
      have hcj := hce j hlt
      clear hce
      obtain ⟨y, hy⟩ : ∃ y, ts[j]? = some y := ⟨_, List.getElem?_eq_getElem (by rw [Hn.out]; exact hlt)⟩
      rw [show ts.getD j [] = y by rw [List.getD_eq_getElem?_getD, hy]; rfl] at hcj
      have hys := hts.out y (List.mem_of_getElem? hy)
      have HTk : Hid (ts.take (j + 1) = ts.take j ++ [y]) := by
        show _ = _
        rw [List.take_add_one, hy]; rfl
      have HTd : Hid (ts = ts.take j ++ y :: ts.drop (j + 1)) := by
        show _ = _
        have e := List.getElem?_eq_some_iff.1 hy
        rw [← e.2]
        exact (List.take_append_drop j ts).symm.trans (by rw [List.drop_eq_getElem_cons e.1])
      have ov := HR.out
      have ou := HT.out
      obtain ⟨av, cv, hv⟩ := ownR_sl ov
      subst hv
      obtain ⟨au, cu, hv⟩ := ownR_sl ou
      subst hv
      clear hy
      have cP := qparse_any y wr (by omega)
      have HY : Hid ((parseR y).2 ≠ 0 → ST = ((parseR y).2, P)) := fun h => by
        have e := HTd.out
        have := readR_bad (ts.drop (j + 1)) (ts.take j) HP.out y h
        rw [← e] at this
        have h2 := HBad.out (by rw [this]; exact h)
        rw [this] at h2
        exact h2
      unfold prv at cP
      have HM : Hid ((parseR y).2 = 0 → (∀ p ∈ ts.take (j + 1), (parseR p).2 = 0) ∧ rcs ((ts.take (j + 1)).map fun p => (parseR p).1) = rcs ((ts.take j).map fun p => (parseR p).1) ++ (rc (parseR y).1).toList ∧ tc ((ts.take (j + 1)).map fun p => writtenR (parseR p).1) = tc ((ts.take j).map fun p => writtenR (parseR p).1) ++ [.string (ba (writeQ (parseR y).1))] ∧ (parseR y).1.k.length + (parseR y).1.v.length ≤ 281474976710000) := fun h => by
        have hok := parse_ok h
        rw [HTk.out]
        refine ⟨fun p hp => ?_, ?_, ?_, by have := hok.2.2; omega⟩
        · rcases List.mem_append.1 hp with q | q
          · exact HP.out p q
          · have : p = y := by simpa using q
            rw [this]; exact h
        · rw [List.map_append, rcs_app]; rfl
        · rw [List.map_append, tc_app, hok.same]; rfl
      generalize parseR y = p at cP HY HM
      obtain ⟨r, en⟩ := p
      obtain ⟨al, i, o, k, vv⟩ := r
      dsimp only at cP HY HM
      by_cases he : en = 0
      · have HM1 : Hid _ := HM.out he
        subst he
        obtain ⟨V, HV⟩ : ∃ V, Hid (rv ⟨al, i, o, k, vv⟩ = V) := ⟨_, rfl⟩
        rw [HV.out] at cP
        have hsz := HB.out.size
        go_upto_region 10 with (first
          | (go_at_call 38; refine cP.mono ?_; clear cP; rintro e w5 ⟨rfl, hb5⟩; have ov5 := own_keep (S := fun _ => False) ov (Keep.ofBelow hb5) (fun _ _ h => h); have ou5 := own_keep (S := fun _ => False) ou (Keep.ofBelow hb5) (fun _ _ h => h))
          | (refine wp_store_ru rfl (.tmp 11) (.tmp 32) rfl w5.heap.size rfl ⟨al, i, o, k, vv⟩ HV.out.symm r0 (push_at _ _ rfl) ?_))
        have A6 : Hid (RuAt ((w5.alloc oRul).setRow w5.heap.size (rc ⟨al, i, o, k, vv⟩)) w5.heap.size ⟨al, i, o, k, vv⟩ ∧ Below w5.heap.size w5 ((w5.alloc oRul).setRow w5.heap.size (rc ⟨al, i, o, k, vv⟩))) :=
          ⟨RuAt.set (w := w5.alloc oRul) (r := r0) (push_at _ _ rfl) _, (below1 w5 oRul).trans ((rowK (w5.alloc oRul) w5.heap.size _).below (by simp) (fun j e => by omega))⟩
        generalize (w5.alloc _).setRow _ _ = w6 at A6 ⊢
        have ov6 := own_keep (S := fun _ => False) ov5 (Keep.ofBelow A6.out.2) (fun _ _ h => h)
        have ou6 := own_keep (S := fun _ => False) ou5 (Keep.ofBelow A6.out.2) (fun _ _ h => h)
        have HB6 : Hid (Below w.heap.size w w6) := (HB.out.trans (hb5.mono hsz)).trans (A6.out.2.mono (Nat.le_trans hsz hb5.size))
        have hg : Hid (∀ k, (Value.slice av j cv).ownBlock = some k → k < w5.heap.size) := fun k e => (ov5.lt k e).2
        clear ov ov5 ou ou5 HB hsz HP HR HT hb5 HY HTd HTk hcj
        generalize w5.heap.size = g at A6 hg ⊢
        go_upto_region 13 with (first
          | (refine wp_load_ru rfl (.tmp 11) rfl g rfl ⟨al, i, o, k, vv⟩ A6.out.1 ?_; unfold rv rc; dsimp only)
          | (at_builtin; refine wp_app1 68 72 _ 5 40 Tryz.underlying68 infoRule5 rfl (by decide) (by decide) rfl (.tmp 37) (.tmp 39) rfl w.heap.size (.slice av j cv) j (rcs ((ts.take j).map fun p => (parseR p).1)) rfl ov6 #[.bool al, .bool i, .bool o, .string (ba k), .string (ba vv)] rfl (by simp [Value.oneCell']) rfl (by omega) HB6.out.size ?_; intro v7 w7 o7 k7 n7))
        have HB7 : Hid (Below w.heap.size w w7) := HB6.out.trans (k7.below HB6.out.size (fun g' hg => (ov6.lt g' hg).1))
        have A7 : Hid (RuAt w7 g ⟨al, i, o, k, vv⟩) := box_keep A6.out.1 k7 (fun e => by have := hg.out g e; omega)
        have ou7 := own_keep ou6 k7 (fun x h1 h2 => own_apart ou6 ov6 (by decide) x h1 h2)
        replace o7 : Hid _ := o7
        clear ov6 ou6 A6 HB6 k7 n7 hg
        have cQ := qwrite_any ⟨al, i, o, k, vv⟩ w7 HM1.out.2.2.2
        generalize hWq : ba (writeQ ⟨al, i, o, k, vv⟩) = Wq at cQ
        replace hWq : Hid _ := hWq
        go_upto_region 8 with (first
          | (refine wp_load_ru rfl (.tmp 11) rfl g rfl ⟨al, i, o, k, vv⟩ A7.out ?_)
          | (go_at_call 39; refine cQ.mono ?_; clear cQ; rintro e w8 ⟨rfl, hb8⟩; have ou8 := own_keep (S := fun _ => False) ou7 (Keep.ofBelow hb8) (fun _ _ h => h); have hz8 := Nat.le_trans HB7.out.size hb8.size)
          | (at_builtin; refine wp_app1 32 9 _ 1 16 Tryz.underlying32 infoStr1 rfl (by decide) (by decide) rfl (.tmp 41) (.tmp 44) rfl w.heap.size (.slice au j cu) j _ rfl ou8 #[.string Wq] rfl (by simp [Value.oneCell']) rfl (by omega) hz8 ?_; intro v9 w9 o9 k9 n9))
        have HB9 : Hid (Below w.heap.size w w9) := (HB7.out.trans (hb8.mono HB7.out.size)).trans (k9.below hz8 (fun g' hg => (ou8.lt g' hg).1))
        have o7w : Hid (w9.ownsRow w.heap.size 72 5 v7 (j + 1) (rcs ((ts.take (j + 1)).map fun p => (parseR p).1))) := by
          show World.ownsRow _ _ _ _ _ _ _
          rw [HM1.out.2.1]
          have h8 := own_keep (S := fun _ => False) o7.out (Keep.ofBelow hb8) (fun _ _ h => h)
          exact own_keep h8 k9 (fun x h1 h2 => own_apart h8 ou8 (by decide) x h1 h2)
        have o9w : Hid (w9.ownsRow w.heap.size 9 1 v9 (j + 1) (tc ((ts.take (j + 1)).map fun p => writtenR (parseR p).1))) := by
          show World.ownsRow _ _ _ _ _ _ _
          rw [HM1.out.2.2.1, hWq.out]
          exact o9
        clear ou7 ou8 o9 k9 n9 hb8 hz8 HB7 A7 o7
        go_wp2
        exact ⟨⟨j + 1, _, _, rfl, rfl, by go_num, by omega, HM1.out.1, o7w, o9w, HB9⟩, by simp [intOf]; omega⟩
      · have hy := HY.out he
        have hd : ((en : Int) != 0) = true := by simp; omega
        replace he : Hid (en ≠ 0) := he
        obtain ⟨V, HV⟩ : ∃ V, Hid (rv ⟨al, i, o, k, vv⟩ = V) := ⟨_, rfl⟩
        rw [HV.out] at cP
        have hsz := HB.out.size
        subst hy
        clear HY HM HTd HTk hR HP HR HT ov ou HBad HOk
        go_wp2_with (first
          | (go_at_call 38; refine cP.mono ?_; clear cP; rintro e w5 ⟨rfl, hb5⟩)
          | (refine wp_store_ru rfl (.tmp 11) (.tmp 32) rfl w5.heap.size rfl ⟨al, i, o, k, vv⟩ HV.out.symm r0 (push_at _ _ rfl) ?_))
        go_ret
        exact ⟨rfl, Qq.ofBelow ⟨vN, vT, vR, vs, us, HH.out⟩ ((HB.out.trans (hb5.mono hsz)).trans (((below1 w5 oRul).trans ((rowK (w5.alloc oRul) w5.heap.size _).below (by simp) (fun j e => by omega))).mono (Nat.le_trans hsz hb5.size)))⟩
    · have hcl : ¬ (j : Int) < (n : Int) := by omega
      obtain rfl : j = n := by omega
      have hall : readR ts = (ts.map fun p => (parseR p).1, 0) := by
        have := HP.out
        rw [List.take_of_length_le (by rw [Hn.out]; exact Nat.le_refl _)] at this
        exact readR_all ts this
      have hR9 := HR.out
      have hT9 := HT.out
      rw [List.take_of_length_le (by rw [Hn.out]; exact Nat.le_refl _)] at hR9 hT9
      have hOk := HOk.out (by rw [hall])
      rw [hall] at hOk
      dsimp only at hOk
      have hmm : (ts.map fun p => writtenR (parseR p).1) = (ts.map fun p => (parseR p).1).map writtenR := by rw [List.map_map]; rfl
      rw [hmm] at hT9
      generalize (ts.map fun p => (parseR p).1) = rs at hOk hR9 hT9
      obtain ⟨⟨fa, fn, fc⟩, rfl, hf, hfn, hfb⟩ := RRd.ofOwn hR9
      have hfn' : fn = j := hfn
      subst hfn'
      obtain ⟨pa, pc, hv, hp⟩ := TRd.ofOwn hT9
      subst hv
      have hpl : ∀ ad, pa = some ad → (w.heap.size ≤ ad.block ∧ ad.block < wr.heap.size) ∧ Ty wr ad.block := fun ad e => by
        subst e
        exact ⟨hT9.lt ad.block rfl, own_ty hT9⟩
      have HX : Hid (TRd wr pa fn pc (rs.map writtenR) ∧ (∀ ad, pa = some ad → (w.heap.size ≤ ad.block ∧ ad.block < wr.heap.size) ∧ Ty wr ad.block) ∧ RRd wr (fa, fn, fc) rs ∧ (∀ g, fa = some g → w.heap.size ≤ g ∧ g < wr.heap.size)) := ⟨hp, hpl, hf, hfb⟩
      have HQ : Hid (QM wr F q P vN vT vR vs us) := HH.out.below HB.out
      have cA := qat_m HQ.out s
      clear hall hR9 hT9 hmm HR HT HP hp hpl hf hfb hfn HBad HOk hcl hlt hR
      replace hOk : Hid _ := hOk
      obtain ⟨aN, dN, hvN, tN⟩ := VRd.ofOwn HH.out.oN
      subst hvN
      have hdN := tN.cap
      have hdM := tN.most
      unfold maxLen at hdM
      have hLL := hk.out
      have HLk : Hid ((sortK P.ks).length = P.ks.length) := sortK_len _
      clear tN
      obtain ⟨fA, hfA⟩ : ∃ fA, Hid ((fa.map fun g => (⟨g, 0, none⟩ : Addr)) = fA) := ⟨_, rfl⟩
      have hrsl : rsl (fa, fn, fc) = .slice fA fn fc := by unfold rsl; rw [hfA.out]
      rw [hrsl]
      replace hrsl : Hid _ := hrsl
      have hkk : Hid ((atK (sortK P.ks) s : Nat) ≤ (sortK P.ks).length) := at_le _ _
      cases hd1 : decide (P.ru < (fn : Int)) with
      | true =>
        have hst : ST = (8, P) := by
          have := hOk.out
          unfold fullR at this
          rw [hd1] at this
          exact this
        subst hst
        generalize (P.m s).isSome = is at cA
        go_upto_region 15 with (go_at_call 42; refine cA.mono ?_; clear cA; rintro e w2 ⟨rfl, hb2⟩)
        have Q2 : Hid (QM w2 F q P (.slice aN (sortK P.ks).length dN) vT vR vs us ∧ Below w.heap.size w w2 ∧ wr.heap.size ≤ w2.heap.size ∧ w.heap.size ≤ w2.heap.size) := ⟨HQ.out.below hb2, HB.out.trans (hb2.mono HB.out.size), hb2.size, Nat.le_trans HB.out.size hb2.size⟩
        have u0 : w2.cell? ⟨q, 0, none⟩ = some (.int .i64 P.li) := Q2.out.1.c0
        have u1 : w2.cell? ⟨q, 1, none⟩ = some (.int .i64 P.ru) := Q2.out.1.c1
        have u3 : w2.cell? ⟨q, 3, none⟩ = some (.slice aN (sortK P.ks).length dN) := Q2.out.1.c3
        have HX2 : Hid (TRd w2 pa fn pc (rs.map writtenR) ∧ (∀ ad, pa = some ad → (w.heap.size ≤ ad.block ∧ ad.block < w2.heap.size) ∧ Ty w2 ad.block) ∧ RRd w2 (fa, fn, fc) rs ∧ (∀ g, fa = some g → w.heap.size ≤ g ∧ g < w2.heap.size)) := ⟨HX.out.1.below hb2, fun ad e => ⟨⟨(HX.out.2.1 ad e).1.1, Nat.lt_of_lt_of_le (HX.out.2.1 ad e).1.2 hb2.size⟩, (HX.out.2.1 ad e).2.below hb2⟩, HX.out.2.2.1.below hb2, fun g e => ⟨(HX.out.2.2.2 g e).1, Nat.lt_of_lt_of_le (HX.out.2.2.2 g e).2 hb2.size⟩⟩
        clear hb2
        go_quiet (fail)
        go_wp2
        go_ret
        exact ⟨rfl, Qq.ofBelow ⟨_, vT, vR, vs, us, HH.out⟩ (Q2.out.2.1.trans ((keepDrew (fun _ => False) w2 nq).below Q2.out.2.2.2 (fun j e => e.elim)))⟩
      | false =>
        cases hb : (P.m s).isSome with
        | true =>
          rw [hb] at cA
          have hst : ST = (0, putP P s rs) := by
            have := hOk.out
            unfold fullR at this
            rw [hd1, hb] at this
            exact this
          subst hst
          have hb' : Hid ((P.m s).isSome = true) := hb
          clear hb
          go_upto_region 15 with (go_at_call 42; refine cA.mono ?_; clear cA; rintro e w2 ⟨rfl, hb2⟩)
          have Q2 : Hid (QM w2 F q P (.slice aN (sortK P.ks).length dN) vT vR vs us ∧ Below w.heap.size w w2 ∧ wr.heap.size ≤ w2.heap.size ∧ w.heap.size ≤ w2.heap.size) := ⟨HQ.out.below hb2, HB.out.trans (hb2.mono HB.out.size), hb2.size, Nat.le_trans HB.out.size hb2.size⟩
          have u0 : w2.cell? ⟨q, 0, none⟩ = some (.int .i64 P.li) := Q2.out.1.c0
          have u1 : w2.cell? ⟨q, 1, none⟩ = some (.int .i64 P.ru) := Q2.out.1.c1
          have u3 : w2.cell? ⟨q, 3, none⟩ = some (.slice aN (sortK P.ks).length dN) := Q2.out.1.c3
          have HX2 : Hid (TRd w2 pa fn pc (rs.map writtenR) ∧ (∀ ad, pa = some ad → (w.heap.size ≤ ad.block ∧ ad.block < w2.heap.size) ∧ Ty w2 ad.block) ∧ RRd w2 (fa, fn, fc) rs ∧ (∀ g, fa = some g → w.heap.size ≤ g ∧ g < w2.heap.size)) := ⟨HX.out.1.below hb2, fun ad e => ⟨⟨(HX.out.2.1 ad e).1.1, Nat.lt_of_lt_of_le (HX.out.2.1 ad e).1.2 hb2.size⟩, (HX.out.2.1 ad e).2.below hb2⟩, HX.out.2.2.1.below hb2, fun g e => ⟨(HX.out.2.2.2 g e).1, Nat.lt_of_lt_of_le (HX.out.2.2.2 g e).2 hb2.size⟩⟩
          clear hb2
          go_quiet (fail)
          go_upto_region 18 with fail
          obtain ⟨L, HL⟩ : ∃ L, Hid ((sortK P.ks).length = L) := ⟨_, rfl⟩
          have hat : atK (sortK P.ks) s < L := by rw [← HL.out]; exact (at_head ((at_mem (asc_sortK HH.out.nd)).2 (sortK_mem.2 ((HH.out.mem s).1 hb'.out)))).1
          have oT0 := HH.out.oT
          have oR0 := HH.out.oR
          rw [HL.out] at oT0 oR0
          obtain ⟨gT, cT, hvT⟩ := own_some oT0 (by omega)
          obtain ⟨gR, cR, hvR⟩ := own_some oR0 (by omega)
          subst hvT hvR
          obtain ⟨k, Hk⟩ : ∃ k, Hid (atK (sortK P.ks) s = k) := ⟨_, rfl⟩
          rw [HL.out] at Q2 HH
          rw [Hk.out] at hat ⊢
          have hk0 : (0 : Int) ≤ (k : Int) := by omega
          have hk1 : (k : Int) < (L : Int) := by omega
          have Q3 : Hid (QM (w2.drewN nq).drew F q P (.slice aN L dN) (.slice (some ⟨gT, 0, none⟩) L cT) (.slice (some ⟨gR, 0, none⟩) L cR) vs us ∧ TRd (w2.drewN nq).drew pa fn pc (rs.map writtenR) ∧ (∀ ad, pa = some ad → (w.heap.size ≤ ad.block ∧ ad.block < (w2.drewN nq).drew.heap.size) ∧ Ty (w2.drewN nq).drew ad.block) ∧ RRd (w2.drewN nq).drew (fa, fn, fc) rs ∧ (∀ g, fa = some g → w.heap.size ≤ g ∧ g < (w2.drewN nq).drew.heap.size) ∧ Below w.heap.size w (w2.drewN nq).drew) := by
            have kd : Keep (fun _ => False) w2 (w2.drewN nq).drew := (keepDrew (fun _ => False) w2 nq).drew
            exact ⟨Q2.out.1.keep kd (fun _ _ e => e), HX2.out.1.keep kd (fun _ _ e => e), fun ad e => ⟨(HX2.out.2.1 ad e).1, (HX2.out.2.1 ad e).2.keep kd (fun e => e)⟩, HX2.out.2.2.1.keep kd (fun _ _ e => e), HX2.out.2.2.2, Q2.out.2.1.trans (kd.below Q2.out.2.2.2 (fun j e => e.elim))⟩
          have oT9 := Q3.out.1.oT
          have oR9 := Q3.out.1.oR
          rw [HL.out] at oT9 oR9
          clear u0 u1 u3 HX HX2 HQ Q2 oT0 oR0 hat
          refine wp_region_lx (fun w' => w'.heap[q]? = some (.cells (qlc P (.slice aN L dN) (.slice (some ⟨gT, 0, none⟩) L cT) (.slice (some ⟨gR, 0, none⟩) L cR)) 57 (0, 0))) [16] 17 (by kernel_rfl) (by kernel_rfl) ?_
          generalize World.drew _ = X at Q3 oT9 oR9 ⊢
          have HS0 := Q3.out.1.blk
          refine lx_rd 0 (.pointer (some ⟨q, 0, none⟩)) (by kernel_rfl) (fun _ _ d _ _ h => by cases d <;> exact h) (by kernel_rfl) HS0 rfl rfl rfl (fun w' hS => ?hA0) ?_
          case hA0 => first | (go_simp; rfl) | go_simp
          simp only [List.setIfInBounds_toArray, List.set_cons_zero, List.set_cons_succ]
          refine lx_rd 1 (.pointer (some ⟨q, 0, none⟩)) (by kernel_rfl) (fun _ _ d _ _ h => by cases d <;> exact h) (by kernel_rfl) HS0 rfl rfl rfl (fun w' hS => ?hA1) ?_
          case hA1 => first | (go_simp; rfl) | go_simp
          simp only [List.setIfInBounds_toArray, List.set_cons_zero, List.set_cons_succ]
          refine lx_rd 2 (.pointer (some ⟨q, 0, none⟩)) (by kernel_rfl) (fun _ _ d _ _ h => by cases d <;> exact h) (by kernel_rfl) HS0 rfl rfl rfl (fun w' hS => ?hA2) ?_
          case hA2 => first | (go_simp; rfl) | go_simp
          simp only [List.setIfInBounds_toArray, List.set_cons_zero, List.set_cons_succ]
          refine lx_rd 3 (.pointer (some ⟨q, 4, none⟩)) (by kernel_rfl) (fun _ _ d _ _ h => by cases d <;> exact h) (by kernel_rfl) HS0 rfl rfl rfl (fun w' hS => ?hA3) ?_
          case hA3 => first | (go_simp; rfl) | go_simp
          simp only [List.setIfInBounds_toArray, List.set_cons_zero, List.set_cons_succ]
          refine lx_rd 4 (.slice (some ⟨gT, 0, none⟩) L cT) (by kernel_rfl) (fun _ _ d _ _ h => by cases d <;> exact h) (by kernel_rfl) HS0 rfl rfl rfl (fun w' hS => ?hA4) ?_
          case hA4 => have q0 := qb4 hS; first | (go_simp; rfl) | go_simp
          simp only [List.setIfInBounds_toArray, List.set_cons_zero, List.set_cons_succ]
          refine lx_rd 5 (.int .i64 (k : Int)) (by kernel_rfl) (fun _ _ d _ _ h => by cases d <;> exact h) (by kernel_rfl) HS0 rfl rfl rfl (fun w' hS => ?hA5) ?_
          case hA5 => first | (go_simp; rfl) | go_simp
          simp only [List.setIfInBounds_toArray, List.set_cons_zero, List.set_cons_succ]
          refine lx_rd 6 (.pointer (some ⟨q, 0, none⟩)) (by kernel_rfl) (fun _ _ d _ _ h => by cases d <;> exact h) (by kernel_rfl) HS0 rfl rfl rfl (fun w' hS => ?hA6) ?_
          case hA6 => first | (go_simp; rfl) | go_simp
          simp only [List.setIfInBounds_toArray, List.set_cons_zero, List.set_cons_succ]
          refine lx_rd 7 (.pointer (some ⟨q, 0, none⟩)) (by kernel_rfl) (fun _ _ d _ _ h => by cases d <;> exact h) (by kernel_rfl) HS0 rfl rfl rfl (fun w' hS => ?hA7) ?_
          case hA7 => first | (go_simp; rfl) | go_simp
          simp only [List.setIfInBounds_toArray, List.set_cons_zero, List.set_cons_succ]
          refine lx_rd 8 (.pointer (some ⟨q, 5, none⟩)) (by kernel_rfl) (fun _ _ d _ _ h => by cases d <;> exact h) (by kernel_rfl) HS0 rfl rfl rfl (fun w' hS => ?hA8) ?_
          case hA8 => first | (go_simp; rfl) | go_simp
          simp only [List.setIfInBounds_toArray, List.set_cons_zero, List.set_cons_succ]
          refine lx_rd 9 (.slice (some ⟨gR, 0, none⟩) L cR) (by kernel_rfl) (fun _ _ d _ _ h => by cases d <;> exact h) (by kernel_rfl) HS0 rfl rfl rfl (fun w' hS => ?hA9) ?_
          case hA9 => have q0 := qb5 hS; first | (go_simp; rfl) | go_simp
          simp only [List.setIfInBounds_toArray, List.set_cons_zero, List.set_cons_succ]
          refine lx_rd 10 (.int .i64 (k : Int)) (by kernel_rfl) (fun _ _ d _ _ h => by cases d <;> exact h) (by kernel_rfl) HS0 rfl rfl rfl (fun w' hS => ?hA10) ?_
          case hA10 => first | (go_simp; rfl) | go_simp
          simp only [List.setIfInBounds_toArray, List.set_cons_zero, List.set_cons_succ]
          refine lx_rd 11 (.slice pa fn pc) (by kernel_rfl) (fun _ _ d _ _ h => by cases d <;> exact h) (by kernel_rfl) HS0 rfl rfl rfl (fun w' hS => ?hA11) ?_
          case hA11 => first | (go_simp; rfl) | go_simp
          simp only [List.setIfInBounds_toArray, List.set_cons_zero, List.set_cons_succ]
          refine lx_rd 12 (.slice fA fn fc) (by kernel_rfl) (fun _ _ d _ _ h => by cases d <;> exact h) (by kernel_rfl) HS0 rfl rfl rfl (fun w' hS => ?hA12) ?_
          case hA12 => first | (go_simp; rfl) | go_simp
          simp only [List.setIfInBounds_toArray, List.set_cons_zero, List.set_cons_succ]
          refine lx_rd 13 (.pointer (some ⟨gT, k, none⟩)) (by kernel_rfl) (fun _ _ d _ _ h => by cases d <;> exact h) (by kernel_rfl) HS0 rfl rfl rfl (fun w' hS => ?hA13) ?_
          case hA13 => first | (go_simp; rfl) | go_simp
          simp only [List.setIfInBounds_toArray, List.set_cons_zero, List.set_cons_succ]
          have l1 : ∃ u, X.cell? ⟨gT, k, none⟩ = some u := by
            have h1 := oT9.cellAt k (by omega)
            have h2 : k < vs.length := by have := oT9.1; omega
            exact ⟨vs[k], by rw [h1]; exact List.getElem?_eq_getElem h2⟩
          have l2 : ∃ u, X.cell? ⟨gR, k, none⟩ = some u := by
            have h1 := oR9.cellAt k (by omega)
            have h2 : k < us.length := by have := oR9.1; omega
            exact ⟨us[k], by rw [h1]; exact List.getElem?_eq_getElem h2⟩
          obtain ⟨x1, l1⟩ := l1
          obtain ⟨x2, l2⟩ := l2
          have g1 := oT9.frozenAt k
          have g2 := oR9.frozenAt k
          have nTR : gR ≠ gT := fun e => own_apart oT9 oR9 (by decide) gT rfl (by rw [e]; rfl)
          have kT := setK X gT k (.slice pa fn pc)
          have HS1 : (X.setCell ⟨gT, k, none⟩ (.slice pa fn pc)).heap[q]? = some (.cells (qlc P (.slice aN L dN) (.slice (some ⟨gT, 0, none⟩) L cT) (.slice (some ⟨gR, 0, none⟩) L cR)) 57 (0, 0)) := box_keep HS0 kT (fun e => own_notq oT9 HS0 (by decide) (by rw [e]; rfl))
          refine lx_one 14 (by kernel_rfl) (stepT_store (w' := X.setCell ⟨gT, k, none⟩ (.slice pa fn pc)) rfl rfl rfl ?ca (fun _ => HS1) ?_)
          case ca => first | (go_simp; rfl) | go_simp
          have l3 : (X.setCell ⟨gT, k, none⟩ (.slice pa fn pc)).cell? ⟨gR, k, none⟩ = some x2 := kT.cell l2 nTR
          have g3 : (X.setCell ⟨gT, k, none⟩ (.slice pa fn pc)).frozen? ⟨gR, k, none⟩ = false := (own_keep oR9 kT (fun i e1 e2 => nTR (by rw [← e2]; exact Option.some.inj e1))).frozenAt k
          refine lx_rd 15 (.pointer (some ⟨gR, k, none⟩)) (by kernel_rfl) (fun _ _ d _ _ h => by cases d <;> exact h) (by kernel_rfl) HS1 rfl rfl rfl (fun w' hS => ?hB15) ?_
          case hB15 => first | (go_simp; rfl) | go_simp
          simp only [List.setIfInBounds_toArray, List.set_cons_zero, List.set_cons_succ]
          refine lx_one 16 (by kernel_rfl) (stepT_store (w' := (X.setCell ⟨gT, k, none⟩ (.slice pa fn pc)).setCell ⟨gR, k, none⟩ (.slice fA fn fc)) rfl rfl rfl ?cb (fun h => by cases h) ?_)
          case cb => first | (go_simp; rfl) | go_simp
          refine lx_nil (by kernel_rfl) ?_
          have HF : Hid (Qq w F q (putP P s rs) ((X.setCell ⟨gT, k, none⟩ (.slice pa fn pc)).setCell ⟨gR, k, none⟩ (.slice fA fn fc))) :=
            HH.out.turned Q3.out.2.2.2.2.2 s rs hb'.out Q3.out.2.1 Q3.out.2.2.1 Q3.out.2.2.2.1 Q3.out.2.2.2.2.1 (by rw [Hk.out, hrsl.out])
          clear l1 l2 l3 g1 g2 g3 nTR kT HS0 HS1 Q3 oT9 oR9
          generalize World.setCell _ _ _ = Y at HF ⊢
          go_wp2
          go_ret
          exact ⟨rfl, HF.out⟩
        | false =>
          rw [hb] at cA
          cases hd2 : decide (P.li ≤ (((sortK P.ks).length : Nat) : Int)) with
          | true =>
            have hst : ST = (8, P) := by
              have := hOk.out
              unfold fullR at this
              rw [hd1, hb, ← HLk.out, hd2] at this
              exact this
            subst hst
            clear hb
            go_upto_region 15 with (go_at_call 42; refine cA.mono ?_; clear cA; rintro e w2 ⟨rfl, hb2⟩)
            have Q2 : Hid (QM w2 F q P (.slice aN (sortK P.ks).length dN) vT vR vs us ∧ Below w.heap.size w w2 ∧ wr.heap.size ≤ w2.heap.size ∧ w.heap.size ≤ w2.heap.size) := ⟨HQ.out.below hb2, HB.out.trans (hb2.mono HB.out.size), hb2.size, Nat.le_trans HB.out.size hb2.size⟩
            have u0 : w2.cell? ⟨q, 0, none⟩ = some (.int .i64 P.li) := Q2.out.1.c0
            have u1 : w2.cell? ⟨q, 1, none⟩ = some (.int .i64 P.ru) := Q2.out.1.c1
            have u3 : w2.cell? ⟨q, 3, none⟩ = some (.slice aN (sortK P.ks).length dN) := Q2.out.1.c3
            have HX2 : Hid (TRd w2 pa fn pc (rs.map writtenR) ∧ (∀ ad, pa = some ad → (w.heap.size ≤ ad.block ∧ ad.block < w2.heap.size) ∧ Ty w2 ad.block) ∧ RRd w2 (fa, fn, fc) rs ∧ (∀ g, fa = some g → w.heap.size ≤ g ∧ g < w2.heap.size)) := ⟨HX.out.1.below hb2, fun ad e => ⟨⟨(HX.out.2.1 ad e).1.1, Nat.lt_of_lt_of_le (HX.out.2.1 ad e).1.2 hb2.size⟩, (HX.out.2.1 ad e).2.below hb2⟩, HX.out.2.2.1.below hb2, fun g e => ⟨(HX.out.2.2.2 g e).1, Nat.lt_of_lt_of_le (HX.out.2.2.2 g e).2 hb2.size⟩⟩
            clear hb2
            go_quiet (fail)
            go_wp2
            go_ret
            exact ⟨rfl, Qq.ofBelow ⟨_, vT, vR, vs, us, HH.out⟩ (Q2.out.2.1.trans ((keepDrew (fun _ => False) w2 nq).below Q2.out.2.2.2 (fun j e => e.elim)))⟩
          | false =>
            have hst : ST = (0, putP P s rs) := by
              have := hOk.out
              unfold fullR at this
              rw [hd1, hb, ← HLk.out, hd2] at this
              exact this
            subst hst
            have hb' : Hid ((P.m s).isSome = false) := hb
            clear hb
            go_upto_region 15 with (go_at_call 42; refine cA.mono ?_; clear cA; rintro e w2 ⟨rfl, hb2⟩)
            have Q2 : Hid (QM w2 F q P (.slice aN (sortK P.ks).length dN) vT vR vs us ∧ Below w.heap.size w w2 ∧ wr.heap.size ≤ w2.heap.size ∧ w.heap.size ≤ w2.heap.size) := ⟨HQ.out.below hb2, HB.out.trans (hb2.mono HB.out.size), hb2.size, Nat.le_trans HB.out.size hb2.size⟩
            have u0 : w2.cell? ⟨q, 0, none⟩ = some (.int .i64 P.li) := Q2.out.1.c0
            have u1 : w2.cell? ⟨q, 1, none⟩ = some (.int .i64 P.ru) := Q2.out.1.c1
            have u3 : w2.cell? ⟨q, 3, none⟩ = some (.slice aN (sortK P.ks).length dN) := Q2.out.1.c3
            have HX2 : Hid (TRd w2 pa fn pc (rs.map writtenR) ∧ (∀ ad, pa = some ad → (w.heap.size ≤ ad.block ∧ ad.block < w2.heap.size) ∧ Ty w2 ad.block) ∧ RRd w2 (fa, fn, fc) rs ∧ (∀ g, fa = some g → w.heap.size ≤ g ∧ g < w2.heap.size)) := ⟨HX.out.1.below hb2, fun ad e => ⟨⟨(HX.out.2.1 ad e).1.1, Nat.lt_of_lt_of_le (HX.out.2.1 ad e).1.2 hb2.size⟩, (HX.out.2.1 ad e).2.below hb2⟩, HX.out.2.2.1.below hb2, fun g e => ⟨(HX.out.2.2.2 g e).1, Nat.lt_of_lt_of_le (HX.out.2.2.2 g e).2 hb2.size⟩⟩
            clear hb2
            go_quiet (fail)
            have cP : Calls Tryz.prog 43 #[.pointer (some ⟨q, 0, none⟩), .int .i64 (atK (sortK P.ks) s : Nat), .int .i64 (atK (sortK P.ks) s : Nat), .string (ba s), .slice pa fn pc, .slice fA fn fc] (w2.drewN nq) fun e w' => e = .returned (.tuple #[]) ∧ Hid (Qq w F q (putP P s rs) w') := by
              have kd : Keep (fun _ => False) w2 (w2.drewN nq) := keepDrew (fun _ => False) w2 nq
              have hbd : Below w.heap.size w (w2.drewN nq) := Q2.out.2.1.trans (kd.below Q2.out.2.2.2 (fun j e => e.elim))
              have := qput_one s hse.out (atK (sortK P.ks) s) (atK (sortK P.ks) s) pa fn pc fA fn fc (w2.drewN nq) F q P (.slice aN (sortK P.ks).length dN) vT vR vs us (HH.out.below hbd) hkk.out hkk.out (by rw [HLk.out]; have := hk.out; omega)
              exact this.mono (fun e w' hh => ⟨hh.1, HH.out.putNew hbd s rs hb'.out (HX2.out.1.keep kd (fun _ _ e => e)) (fun ad e => ⟨(HX2.out.2.1 ad e).1, (HX2.out.2.1 ad e).2.keep kd (fun e => e)⟩) (HX2.out.2.2.1.keep kd (fun _ _ e => e)) HX2.out.2.2.2 (by have h2 := hh.2; rw [← hrsl.out] at h2; exact h2)⟩)
            clear HX HX2 HQ
            generalize (atK (sortK P.ks) s : Nat) = k at *
            go_wp2_with (go_at_call 43; refine cP.mono ?_; clear cP; rintro e w4 ⟨rfl, hq4⟩)
            go_ret
            exact ⟨rfl, hq4.out⟩
end Go.Proofs.YtiplalbicibahaaGreatDoor

/- privacy: the document's Drop; both lists side by side. -/
set_option maxRecDepth 100000
namespace Go.Proofs.YtiplalbicibahaaGreatDoor
open Go.RowKit Go.Joins Go.Shelf

theorem qset_any (s : By) (a : Option Addr) (n c : Nat) (ts : List By) (w : World) (F : Nat → Prop) (q : Nat) (P : Pl) (h : QAt w F q P) (hs : s.length ≤ 1000000) (hR : TRd w a n c ts) (hn : n ≤ 1000) (hts : ∀ t ∈ ts, t.length ≤ 2000000) (hk : P.ks.length ≤ 1000) :
    Calls Tryz.prog 19 #[.pointer (some ⟨q, 0, none⟩), .string (ba s), .slice a n c] w fun e w' => e = .returned (.int .i64 ((setR P s ts).1 : Nat)) ∧ Qq w F q (setR P s ts).2 w' := by
  by_cases h0 : nameE s = 0
  · exact qset_2 s a n c ts w F q P h hs hR hn hts hk h0
  · have e : setR P s ts = (nameE s, P) := by unfold setR; rw [if_pos h0]
    rw [e]
    exact qset_1 s _ w F q P h hs h0
set_option maxHeartbeats 1600000 in
theorem qdrop_any (s : By) (w : World) (F : Nat → Prop) (q : Nat) (P : Pl) (h : QAt w F q P) (hk : P.ks.length ≤ 1000) :
    Calls Tryz.prog 25 #[.pointer (some ⟨q, 0, none⟩), .string (ba s)] w fun e w' => e = .returned (.int .i64 ((dropR P s).1 : Nat)) ∧ Qq w F q (dropR P s).2 w' := by
  obtain ⟨vN, vT, vR, vs, us, h⟩ := h
  have cA := qat_m h s
  have HH : Hid (QM w F q P vN vT vR vs us) := h
  have e1 : ((ba P.us).toList == (ba s).toList) = (s == P.us) := by rw [ba_eq, Lib.toList_data, ba_list]; exact Bool.beq_comm
  have hl : Hid ((sortK P.ks).length ≤ 1000) := by show _ ≤ _; rw [sortK_len]; exact hk
  unfold dropR
  clear h hk
  cases hb : (P.m s).isSome with
  | false =>
    rw [hb] at cA
    rw [if_pos rfl]
    clear hb e1
    go_enter Tryz.func25, Tryz.ntmps25
    go_wp2_with (go_at_call 42; refine cA.mono ?_; clear cA; rintro e w1 ⟨rfl, hb1⟩)
    go_ret
    exact ⟨rfl, Qq.ofBelow ⟨vN, vT, vR, vs, us, HH.out⟩ hb1⟩
  | true =>
    rw [hb] at cA
    rw [if_neg (by decide)]
    have hb' : Hid ((P.m s).isSome = true) := hb
    have hat : Hid (atK (sortK P.ks) s + 1 ≤ (sortK P.ks).length) := (at_head ((at_mem (asc_sortK HH.out.nd)).2 (sortK_mem.2 ((HH.out.mem s).1 hb)))).1
    clear hb
    have hka : (atK (sortK P.ks) s : Int) ≤ 1000 := by have := hat.out; have := hl.out; omega
    have cP : Hid (∀ W, Below w.heap.size w W → Calls Tryz.prog 43 #[.pointer (some ⟨q, 0, none⟩), .int .i64 (atK (sortK P.ks) s : Nat), .int .i64 ((atK (sortK P.ks) s : Nat) + 1), .string ⟨#[]⟩, .slice none 0 0, .slice none 0 0] W fun e w' => e = .returned (.tuple #[]) ∧ Hid (Qq w F q (dropP P s) w')) := fun W hbW => by
      have := qput_none (atK (sortK P.ks) s) (atK (sortK P.ks) s + 1) W F q P vN vT vR vs us (HH.out.below hbW) (by have := hat.out; omega) hat.out (by have := hl.out; omega)
      exact this.mono (fun e w' hh => ⟨hh.1, HH.out.putGone hbW s hb'.out hh.2⟩)
    generalize atK (sortK P.ks) s = k at *
    generalize (s == P.us) = b1 at e1 ⊢
    cases b1 with
    | true =>
      rw [if_pos rfl]
      clear cP
      go_enter Tryz.func25, Tryz.ntmps25
      go_wp2_with (go_at_call 42; refine cA.mono ?_; clear cA; rintro e w1 ⟨rfl, hb1⟩; have u2 := (HH.out.below hb1).c2)
      go_ret
      exact ⟨rfl, Qq.ofBelow ⟨vN, vT, vR, vs, us, HH.out⟩ hb1⟩
    | false =>
      rw [if_neg (by decide)]
      go_enter Tryz.func25, Tryz.ntmps25
      go_wp2_with (first
        | (go_at_call 42; refine cA.mono ?_; clear cA; rintro e w1 ⟨rfl, hb1⟩; have u2 := (HH.out.below hb1).c2; have cP1 := cP.out w1 hb1; clear cP)
        | (go_at_call 43; refine cP1.mono ?_; clear cP1; rintro e w2 ⟨rfl, hq2⟩))
      go_ret
      exact ⟨rfl, hq2.out⟩

/-! ### the program's lists and the document's, side by side, beside what is the law's own (Z) -/
structure Tw (B : Nat) (w0 w : World) (p q : Nat) (P Q : Pl) (Z : Nat → Prop) : Prop where
  ex : ∃ F G, LsAt w F p P ∧ QAt w G q Q ∧ (∀ i, F i → B ≤ i ∧ ¬ Z i) ∧ (∀ i, G i → B ≤ i ∧ ¬ Z i) ∧ (∀ i, F i → ¬ G i)
  bl : Below B w0 w
  sz : B ≤ w.heap.size
  zl : ∀ i, Z i → i < w.heap.size
theorem QAt.lt {w : World} {F : Nat → Prop} {q : Nat} {P : Pl} (h : QAt w F q P) : ∀ i, F i → i < w.heap.size := by obtain ⟨vN, vT, vR, vs, us, h⟩ := h; exact h.lt
section
variable {B : Nat} {w0 w w' : World} {p q : Nat} {P Q P' : Pl} {Z Z' : Nat → Prop}
theorem Tw.below (h : Tw B w0 w p q P Q Z) (hb : Below w.heap.size w w') : Tw B w0 w' p q P Q Z := by
  obtain ⟨F, G, h1, h2, h3, h4, h5⟩ := h.ex
  exact ⟨⟨F, G, h1.below hb, h2.below hb, h3, h4, h5⟩, h.bl.trans (hb.mono h.sz), Nat.le_trans h.sz hb.size, fun i hi => Nat.lt_of_lt_of_le (h.zl i hi) hb.size⟩
/-- What was made since is the law's own. -/
theorem Tw.grow (h : Tw B w0 w p q P Q Z) (hb : Below w.heap.size w w') : Tw B w0 w' p q P Q (fun i => Z i ∨ (w.heap.size ≤ i ∧ i < w'.heap.size)) := by
  obtain ⟨F, G, h1, h2, h3, h4, h5⟩ := h.ex
  exact ⟨⟨F, G, h1.below hb, h2.below hb, fun i hi => ⟨(h3 i hi).1, fun z => z.elim (h3 i hi).2 (fun z => by have := h1.lt i hi; omega)⟩, fun i hi => ⟨(h4 i hi).1, fun z => z.elim (h4 i hi).2 (fun z => by have := h2.lt i hi; omega)⟩, h5⟩, h.bl.trans (hb.mono h.sz), Nat.le_trans h.sz hb.size, fun i hi => hi.elim (fun z => Nat.lt_of_lt_of_le (h.zl i z) hb.size) (fun z => z.2)⟩
theorem Tw.weak (h : Tw B w0 w p q P Q Z') (hz : ∀ i, Z i → Z' i) : Tw B w0 w p q P Q Z := by
  obtain ⟨F, G, h1, h2, h3, h4, h5⟩ := h.ex
  exact ⟨⟨F, G, h1, h2, fun i hi => ⟨(h3 i hi).1, fun z => (h3 i hi).2 (hz i z)⟩, fun i hi => ⟨(h4 i hi).1, fun z => (h4 i hi).2 (hz i z)⟩, h5⟩, h.bl, h.sz, fun i hi => h.zl i (hz i hi)⟩
/-- The law writes to what is its own. -/
theorem Tw.own {S : Nat → Prop} (h : Tw B w0 w p q P Q Z) (hk : Keep S w w') (hS : ∀ i, S i → Z i ∧ B ≤ i) : Tw B w0 w' p q P Q Z := by
  obtain ⟨F, G, h1, h2, h3, h4, h5⟩ := h.ex
  exact ⟨⟨F, G, h1.keep hk (fun i hi hs => (h3 i hi).2 (hS i hs).1), h2.keep hk (fun i hi hs => (h4 i hi).2 (hS i hs).1), h3, h4, h5⟩, h.bl.trans (hk.below h.sz (fun i hi => (hS i hi).2)), Nat.le_trans h.sz hk.size, fun i hi => Nat.lt_of_lt_of_le (h.zl i hi) hk.size⟩
theorem Tw.left {F G : Nat → Prop} (h : Tw B w0 w p q P Q Z) (h2 : QAt w G q Q) (h3 : ∀ i, F i → B ≤ i ∧ ¬ Z i) (h4 : ∀ i, G i → B ≤ i ∧ ¬ Z i) (h5 : ∀ i, F i → ¬ G i) (hl : Lq w F p P' w') : Tw B w0 w' p q P' Q Z ∧ Keep (Oth B Z) w w' := by
  obtain ⟨F', hL', hk, hn⟩ := hl
  exact ⟨⟨⟨F', G, hL', h2.keep hk (fun i hi e => h5 i e hi), fun i hi => (hn i hi).elim (h3 i) (fun e => ⟨Nat.le_trans h.sz e, fun z => by have := h.zl i z; omega⟩), h4, fun i hi hg => (hn i hi).elim (fun e => h5 i e hg) (fun e => by have := h2.lt i hg; omega)⟩, h.bl.trans (hk.below h.sz (fun i hi => (h3 i hi).1)), Nat.le_trans h.sz hk.size, fun i hi => Nat.lt_of_lt_of_le (h.zl i hi) hk.size⟩, hk.mono h3⟩
theorem Tw.right {F G : Nat → Prop} (h : Tw B w0 w p q P Q Z) (h1 : LsAt w F p P) (h3 : ∀ i, F i → B ≤ i ∧ ¬ Z i) (h4 : ∀ i, G i → B ≤ i ∧ ¬ Z i) (h5 : ∀ i, F i → ¬ G i) (hl : Qq w G q P' w') : Tw B w0 w' p q P P' Z ∧ Keep (Oth B Z) w w' := by
  obtain ⟨G', hQ', hk, hn⟩ := hl
  exact ⟨⟨⟨F, G', h1.keep hk (fun i hi e => h5 i hi e), hQ', h3, fun i hi => (hn i hi).elim (h4 i) (fun e => ⟨Nat.le_trans h.sz e, fun z => by have := h.zl i z; omega⟩), fun i hi hg => (hn i hg).elim (fun e => h5 i hi e) (fun e => by have := h1.lt i hi; omega)⟩, h.bl.trans (hk.below h.sz (fun i hi => (h4 i hi).1)), Nat.le_trans h.sz hk.size, fun i hi => Nat.lt_of_lt_of_le (h.zl i hi) hk.size⟩, hk.mono h4⟩
theorem tw_set (h : Tw B w0 w p q P Q Z) (s : By) (a : Option Addr) (n c : Nat) (ts : List By) (hs : s.length ≤ 80) (hR : TRd w a n c ts) (hn : n ≤ 20) (hts : ∀ t ∈ ts, t.length ≤ 120) (hk : P.ks.length ≤ 1000) (hT : Lib.Utf8Tabs 0 1 w) :
    Calls Tryz.prog 18 #[.pointer (some ⟨p, 0, none⟩), .string (ba s), .slice a n c] w fun e w' => e = .returned (.int .i64 ((setR P s ts).1 : Nat)) ∧ Hid (Tw B w0 w' p q (setR P s ts).2 Q Z ∧ Keep (Oth B Z) w w') := by
  obtain ⟨F, G, h1, h2, h3, h4, h5⟩ := h.ex
  exact (set_any s a n c ts w F p P h1 (by omega) hR (by omega) (fun t ht => by have := hts t ht; omega) (by omega) hT).mono (fun e w' hh => ⟨hh.1, h.left h2 h3 h4 h5 hh.2⟩)
theorem tw_qset (h : Tw B w0 w p q P Q Z) (s : By) (a : Option Addr) (n c : Nat) (ts : List By) (hs : s.length ≤ 80) (hR : TRd w a n c ts) (hn : n ≤ 20) (hts : ∀ t ∈ ts, t.length ≤ 120) (hk : Q.ks.length ≤ 1000) :
    Calls Tryz.prog 19 #[.pointer (some ⟨q, 0, none⟩), .string (ba s), .slice a n c] w fun e w' => e = .returned (.int .i64 ((setR Q s ts).1 : Nat)) ∧ Hid (Tw B w0 w' p q P (setR Q s ts).2 Z ∧ Keep (Oth B Z) w w') := by
  obtain ⟨F, G, h1, h2, h3, h4, h5⟩ := h.ex
  exact (qset_any s a n c ts w G q Q h2 (by omega) hR (by omega) (fun t ht => by have := hts t ht; omega) hk).mono (fun e w' hh => ⟨hh.1, h.right h1 h3 h4 h5 hh.2⟩)
theorem tw_drop (h : Tw B w0 w p q P Q Z) (s : By) (hs : s.length ≤ 80) :
    Calls Tryz.prog 23 #[.pointer (some ⟨p, 0, none⟩), .string (ba s)] w fun e w' => e = .returned (.int .i64 ((dropR P s).1 : Nat)) ∧ Hid (Tw B w0 w' p q (dropR P s).2 Q Z ∧ Keep (Oth B Z) w w') := by
  obtain ⟨F, G, h1, h2, h3, h4, h5⟩ := h.ex
  exact (drop_any s w F p P h1 (by omega)).mono (fun e w' hh => ⟨hh.1, h.left h2 h3 h4 h5 ⟨F, hh.2.1, hh.2.2, fun i hi => Or.inl hi⟩⟩)
theorem tw_qdrop (h : Tw B w0 w p q P Q Z) (s : By) (hk : Q.ks.length ≤ 1000) :
    Calls Tryz.prog 25 #[.pointer (some ⟨q, 0, none⟩), .string (ba s)] w fun e w' => e = .returned (.int .i64 ((dropR Q s).1 : Nat)) ∧ Hid (Tw B w0 w' p q P (dropR Q s).2 Z ∧ Keep (Oth B Z) w w') := by
  obtain ⟨F, G, h1, h2, h3, h4, h5⟩ := h.ex
  exact (qdrop_any s w G q Q h2 hk).mono (fun e w' hh => ⟨hh.1, h.right h1 h3 h4 h5 hh.2⟩)
theorem tw_default (h : Tw B w0 w p q P Q Z) (s : By) (hs : s.length ≤ 80) :
    Calls Tryz.prog 26 #[.pointer (some ⟨p, 0, none⟩), .string (ba s)] w fun e w' => e = .returned (.int .i64 ((defaultR P s).1 : Nat)) ∧ Hid (Tw B w0 w' p q (defaultR P s).2 Q Z ∧ Keep (Oth B Z) w w') := by
  obtain ⟨F, G, h1, h2, h3, h4, h5⟩ := h.ex
  exact (default_any s w F p P h1 (by omega)).mono (fun e w' hh => ⟨hh.1, h.left h2 h3 h4 h5 ⟨F, hh.2.1, hh.2.2, fun i hi => Or.inl hi⟩⟩)
theorem tw_qdefault (h : Tw B w0 w p q P Q Z) (s : By) :
    Calls Tryz.prog 27 #[.pointer (some ⟨q, 0, none⟩), .string (ba s)] w fun e w' => e = .returned (.int .i64 ((defaultR Q s).1 : Nat)) ∧ Hid (Tw B w0 w' p q P (defaultR Q s).2 Z ∧ Keep (Oth B Z) w w') := by
  obtain ⟨F, G, h1, h2, h3, h4, h5⟩ := h.ex
  exact (qdefault_any s w G q Q h2).mono (fun e w' hh => ⟨hh.1, h.right h1 h3 h4 h5 ⟨G, hh.2.1, hh.2.2, fun i hi => Or.inl hi⟩⟩)
theorem tw_allows (h : Tw B w0 w p q P Q Z) (s : By) (y : Qy) (a : Option Addr) (n c : Nat) (hs : s.length ≤ 80) (hu : P.us.length ≤ 80) (hR : TRd w a n c y.gs) (hsb : y.s.length ≤ 9223372036854775807) (hl : (heldR P s).length ≤ 20) :
    Calls Tryz.prog 22 #[.pointer (some ⟨p, 0, none⟩), .string (ba s), .bool y.i, .string (ba y.c), .slice a n c, .string (ba y.s)] w fun e w' => e = .returned (.bool (allowsR y (heldR P s))) ∧ Below w.heap.size w w' := by
  obtain ⟨F, G, h1, h2, h3, h4, h5⟩ := h.ex
  exact allows_any s y a n c w F p P h1 (by omega) (by omega) hR hsb (by omega)
theorem tw_qallows (h : Tw B w0 w p q P Q Z) (s : By) (y : Qy) (a : Option Addr) (n c : Nat) (hR : TRd w a n c y.gs) (hl : (heldR Q s).length ≤ 20) (hok : ∀ r ∈ heldR Q s, RulN r) :
    Calls Tryz.prog 28 #[.pointer (some ⟨q, 0, none⟩), .string (ba s), .bool y.i, .string (ba y.c), .slice a n c, .string (ba y.s)] w fun e w' => e = .returned (.bool (allowsR y (heldR Q s))) ∧ Below w.heap.size w w' := by
  obtain ⟨F, G, h1, h2, h3, h4, h5⟩ := h.ex
  exact qallows_any s y a n c w G q Q h2 hR (by omega) (fun r hr => (hok r hr).1)
theorem tw_has (h : Tw B w0 w p q P Q Z) (s : By) (hs : s.length ≤ 80) : Calls Tryz.prog 29 #[.pointer (some ⟨p, 0, none⟩), .string (ba s)] w fun e w' => e = .returned (.bool (P.m s).isSome) ∧ w' = w := by
  obtain ⟨F, G, ⟨mb, m, h1⟩, h2, h3, h4, h5⟩ := h.ex
  exact has_any s w F p mb m P h1 (by omega)
theorem tw_qhas (h : Tw B w0 w p q P Q Z) (s : By) : Calls Tryz.prog 30 #[.pointer (some ⟨q, 0, none⟩), .string (ba s)] w fun e w' => e = .returned (.bool (Q.m s).isSome) ∧ Below w.heap.size w w' := by
  obtain ⟨F, G, h1, h2, h3, h4, h5⟩ := h.ex
  exact qhas_any s w G q Q h2
theorem tw_shelf (h : Tw B w0 w p q P Q Z) {n : Nat} (hn : Nice P n) (h1000 : n ≤ 1000) :
    Calls Tryz.prog 11 #[.pointer (some ⟨p, 0, none⟩)] w fun e w' => ∃ S, e = .returned S ∧ ShA w' w.heap.size P.li P.ru P.us (sortK P.ks) ((sortK P.ks).map (textsK P)) S ∧ Below w.heap.size w w' := by
  obtain ⟨F, G, ⟨mb, m, h1⟩, h2, h3, h4, h5⟩ := h.ex
  exact shelf_any w F p mb m P h1 (by have := hn.kn; omega) (by have := hn.us; omega) (fun k hk => by have := hn.nm k hk; omega) (fun k => by have := hn.rl k; omega) (fun k r hr => by have := (hn.rz k r hr).2.2; omega)
theorem tw_qshelf (h : Tw B w0 w p q P Q Z) {n : Nat} (hn : Nice Q n) (h1000 : n ≤ 1000) :
    Calls Tryz.prog 12 #[.pointer (some ⟨q, 0, none⟩)] w fun e w' => ∃ S, e = .returned S ∧ ShA w' w.heap.size Q.li Q.ru Q.us (sortK Q.ks) ((sortK Q.ks).map (textsK Q)) S ∧ Below w.heap.size w w' := by
  obtain ⟨F, G, h1, h2, h3, h4, h5⟩ := h.ex
  exact qshelf_any w G q Q h2 (by have := hn.kn; omega) (fun k => by have := hn.rl k; omega)
end
end Go.Proofs.YtiplalbicibahaaGreatDoor

/- Local names, by definition: what is prepared is prepared; cutting. No program in this text. -/
namespace Go.Proofs.YtiplalbicibahaaGreatDoor.Nm
open Go.Lib

theorem enc_one (r : Int) (h0 : 0 ≤ r) (h1 : r < 128) : encodeRune r = [r.toNat.toUInt8] := by
  rw [encodeRune, encodeRuneZ_one h0 (by omega)]; rfl
theorem foldR_idem (r : Int) : foldR (foldR r) = foldR r := by
  unfold foldR
  by_cases h : (65 ≤ r ∧ r ≤ 90) ∨ (192 ≤ r ∧ r ≤ 222 ∧ r ≠ 215) ∨ (913 ≤ r ∧ r ≤ 937 ∧ r ≠ 930) ∨ (1040 ≤ r ∧ r ≤ 1071)
  · rw [if_pos h, if_neg (by omega)]
  · rw [if_neg h, if_neg h]
/-- A rune of one or two bytes is read as it was written. -/
theorem dec_enc (F : Int) (t : List UInt8) (h0 : 0 ≤ F) (h1 : F < 2048) : ((decodeL (encodeRune F ++ t)).1 : Int) = F ∧ (decodeL (encodeRune F ++ t)).2 = (encodeRune F).length := by
  obtain ⟨n, rfl⟩ := Int.eq_ofNat_of_zero_le h0
  by_cases h : n < 128
  · rw [enc_one _ (by omega) (by omega)]
    rw [List.singleton_append, decodeL_ascii _ _ (by simp; omega)]
    constructor
    · simp; omega
    · rfl
  · have hx : (192 + (n : Int) / 64).toNat.toUInt8.toNat = 192 + n / 64 := by
      rw [show (192 + (n : Int) / 64).toNat = 192 + n / 64 by omega]
      simp; omega
    have hy : (128 + (n : Int) % 64).toNat.toUInt8.toNat = 128 + n % 64 := by
      rw [show (128 + (n : Int) % 64).toNat = 128 + n % 64 by omega]
      simp; omega
    rw [encodeRune, encodeRuneZ_two (by omega) (by omega), decodeL_N]
    simp only [List.map_cons, List.map_nil, List.cons_append, List.nil_append, List.length_cons, List.getD_cons_zero, List.getD_cons_succ]
    rw [hx, hy, decodeN, if_neg (by omega), if_pos ⟨by omega, by omega, by omega⟩, if_pos (by omega)]
    constructor
    · show (((192 + n / 64) % 32 * 64 + (128 + n % 64) % 64 : Nat) : Int) = (n : Int)
      omega
    · rfl

theorem enc_len1 (x : Int) (h0 : 0 ≤ x) (h1 : x < 128) : (encodeRune x).length = 1 := by rw [enc_one x h0 h1]; rfl
theorem enc_len2 (x : Int) (h0 : 128 ≤ x) (h1 : x < 2048) : (encodeRune x).length = 2 := by rw [encodeRune, encodeRuneZ_two h0 (by omega)]; rfl
theorem letterB_iff (r : Int) : letterB r = true ↔ (97 ≤ r ∧ r ≤ 122) ∨ (48 ≤ r ∧ r ≤ 57) ∨ r = 46 ∨ r = 45 ∨ r = 95 ∨ (223 ≤ r ∧ r ≤ 255 ∧ r ≠ 247) ∨ (945 ≤ r ∧ r ≤ 969) ∨ (1072 ≤ r ∧ r ≤ 1103) := by simp [letterB]
theorem fold_len (r : Int) (h0 : 0 ≤ r) (h : letterB (foldR r) = true) : (encodeRune (foldR r)).length = (encodeRune r).length := by
  rw [letterB_iff] at h
  by_cases hr : r < 128
  · rw [enc_len1 r h0 hr]
    unfold foldR at h ⊢
    split at h
    · rename_i hc
      rw [if_pos hc]
      exact enc_len1 _ (by omega) (by omega)
    · rename_i hc
      rw [if_neg hc]
      exact enc_len1 _ (by omega) (by omega)
  · unfold foldR at h ⊢
    split at h
    · rename_i hc
      rw [if_pos hc, enc_len2 r (by omega) (by omega)]
      exact enc_len2 _ (by omega) (by omega)
    · rename_i hc
      rw [if_neg hc]
theorem enc_bytes (F : Int) (h : letterB F = true) : ∀ b ∈ encodeRune F, b ≠ 47 ∧ b ≠ 64 := by
  rw [letterB_iff] at h
  intro b hb
  have key : ∀ m : Nat, m < 256 → m ≠ 47 → m ≠ 64 → b = m.toUInt8 → b ≠ 47 ∧ b ≠ 64 := fun m h1 h2 h3 e => by
    subst e
    constructor
    · intro q
      have := congrArg UInt8.toNat q
      simp at this; omega
    · intro q
      have := congrArg UInt8.toNat q
      simp at this; omega
  by_cases hF : F < 128
  · rw [enc_one F (by omega) hF] at hb
    simp at hb
    exact key F.toNat (by omega) (by omega) (by omega) (by simpa using hb)
  · rw [encodeRune, encodeRuneZ_two (by omega) (by omega)] at hb
    simp only [List.map_cons, List.map_nil, List.mem_cons, List.not_mem_nil, or_false] at hb
    rcases hb with hb | hb
    · exact key _ (by omega) (by omega) (by omega) hb
    · exact key _ (by omega) (by omega) (by omega) hb

theorem stepL_some {st r F : Int} (h : stepL st r = some F) : F = foldR r ∧ letterB F = true := by
  unfold stepL at h
  split at h
  · rename_i hl; cases h; exact ⟨rfl, hl⟩
  · cases h

theorem eachL_prep : ∀ (n : Nat) (st : Int) (l bs : List UInt8) (z : Int), l.length ≤ n → validD l = true → each stepL st l = some (bs, z) →
    validD bs = true ∧ bs.length = l.length ∧ (∀ b ∈ bs, b ≠ 47 ∧ b ≠ 64) ∧ ∀ st', ∃ z', each stepL st' bs = some (bs, z')
  | n, st, [], bs, z, _, _, h => by
    rw [each_nil] at h; cases h
    exact ⟨validD_nil, rfl, (fun b hb => by cases hb), fun st' => ⟨st', each_nil _ _⟩⟩
  | 0, st, b :: t, bs, z, hn, _, _ => by simp at hn
  | n + 1, st, b :: t, bs, z, hn, hv, h => by
    have hne : b :: t ≠ [] := by simp
    rw [validD_step (b :: t) hne] at hv
    by_cases hbad : (decodeL (b :: t)).1 = 65533 ∧ (decodeL (b :: t)).2 = 1
    · rw [if_pos hbad] at hv; cases hv
    rw [if_neg hbad] at hv
    rw [each_step stepL st _ hne] at h
    have hw := decodeL_width (b :: t)
    have hwl := decodeL_le (b :: t) hne
    have hl : ((b :: t).drop (decodeL (b :: t)).2).length ≤ n := by rw [List.length_drop]; omega
    cases hs : stepL st ((decodeL (b :: t)).1 : Int) with
    | none => simp only [hs] at h; cases h
    | some F =>
      simp only [hs] at h
      obtain ⟨hF, hlet⟩ := stepL_some hs
      cases he : each stepL F ((b :: t).drop (decodeL (b :: t)).2) with
      | none => simp only [he] at h; cases h
      | some p =>
        obtain ⟨cs, s2⟩ := p
        simp only [he] at h
        cases h
        obtain ⟨i1, i2, i3, i4⟩ := eachL_prep n _ _ _ _ hl hv he
        have hlim : 0 ≤ F ∧ F < 2048 := letter_lim F hlet
        obtain ⟨d1, d2⟩ := dec_enc F cs hlim.1 hlim.2
        have hen : (encodeRune F).length = (decodeL (b :: t)).2 := by
          rw [hF, fold_len _ (by omega) (by rw [← hF]; exact hlet), encode_decode (b :: t) hne hbad, List.length_take, Nat.min_eq_left hwl]
        have hbne : encodeRune F ++ cs ≠ [] := by
          intro q
          have := congrArg List.length q
          rw [List.length_append, hen] at this
          simp at this; omega
        refine ⟨?_, ?_, ?_, fun st' => ?_⟩
        · rw [validD_step _ hbne, if_neg (by omega), d2, List.drop_left]
          exact i1
        · rw [List.length_append, hen, i2, List.length_drop]; omega
        · intro x hx
          rcases List.mem_append.1 hx with q | q
          · exact enc_bytes F hlet x q
          · exact i3 x q
        · obtain ⟨z', hz⟩ := i4 F
          have hst : stepL st' F = some F := by
            have hff : foldR F = F := by rw [hF]; exact foldR_idem _
            unfold stepL; rw [hff, if_pos hlet]
          refine ⟨z', ?_⟩
          rw [each_step stepL st' _ hbne, d1, d2, List.drop_left]
          simp only [hst, hz]

theorem prep_zero {step : Int → Int → Option Int} {fin : Int → Bool} {l bs : List UInt8} (h : prep step fin l = (bs, 0)) :
    l.length ≤ 64 ∧ l ≠ [] ∧ validD l = true ∧ ∃ z, each step 46 l = some (bs, z) ∧ fin z = true := by
  unfold prep at h
  by_cases h1 : 64 < l.length
  · rw [if_pos h1] at h; cases h
  rw [if_neg h1] at h
  by_cases h2 : l = [] ∨ validD l = false
  · rw [if_pos h2] at h; cases h
  rw [if_neg h2] at h
  cases he : each step 46 l with
  | none => simp only [he] at h; cases h
  | some p =>
    obtain ⟨cs, z⟩ := p
    simp only [he] at h
    by_cases h3 : fin z = true
    · rw [if_pos h3] at h
      cases h
      refine ⟨by omega, fun q => h2 (.inl q), ?_, z, rfl, h3⟩
      cases hv : validD l with
      | true => rfl
      | false => exact absurd (.inr hv) h2
    · rw [if_neg h3] at h; cases h
theorem prep_of {step : Int → Int → Option Int} {fin : Int → Bool} {l bs : List UInt8} {z : Int} (h1 : l.length ≤ 64) (h2 : l ≠ []) (h3 : validD l = true) (h4 : each step 46 l = some (bs, z)) (h5 : fin z = true) : prep step fin l = (bs, 0) := by
  unfold prep
  rw [if_neg (by omega), if_neg (by simp [h2, h3])]
  simp only [h4, h5, if_true]

theorem local_idem {l a : List UInt8} (h : localN l = (a, 0)) : localN a = (a, 0) ∧ a ≠ [] ∧ a.length ≤ 64 ∧ ∀ b ∈ a, b ≠ 47 ∧ b ≠ 64 := by
  obtain ⟨h1, h2, h3, z, h4, _⟩ := prep_zero h
  obtain ⟨i1, i2, i3, i4⟩ := eachL_prep _ _ _ _ _ (Nat.le_refl _) h3 h4
  obtain ⟨z', hz⟩ := i4 46
  have hane : a ≠ [] := by
    intro q
    rw [q] at i2
    exact h2 (List.length_eq_zero_iff.1 i2.symm)
  exact ⟨prep_of (by omega) hane i1 hz rfl, hane, by omega, i3⟩
/-! ### cutting -/
theorem ix_app (c : UInt8) : ∀ (a b : List UInt8), (∀ x ∈ a, x ≠ c) → ix c (a ++ c :: b) = a.length
  | [], b, _ => by simp [ix, List.findIdx_cons]
  | x :: a, b, h => by
    have hx : (x == c) = false := by simpa using h x (by simp)
    have ih := ix_app c a b (fun y hy => h y (by simp [hy]))
    unfold ix at ih ⊢
    rw [List.cons_append, List.findIdx_cons, hx, cond_false, ih, List.length_cons]
theorem ix_no (c : UInt8) (a : List UInt8) (h : ∀ x ∈ a, x ≠ c) : ix c a = a.length := by
  unfold ix
  rw [List.findIdx_eq_length]
  intro x hx
  simpa using h x hx
theorem cut_app (c : UInt8) (a b : List UInt8) (h : ∀ x ∈ a, x ≠ c) : cutA c (a ++ c :: b) = a ∧ cutZ c (a ++ c :: b) = b ∧ hasB c (a ++ c :: b) = true := by
  unfold cutA cutZ hasB
  rw [ix_app c a b h]
  refine ⟨List.take_left, ?_, by simp⟩
  rw [show a ++ c :: b = (a ++ [c]) ++ b by simp, show a.length + 1 = (a ++ [c]).length by simp]
  exact List.drop_left
theorem cut_no (c : UInt8) (a : List UInt8) (h : ∀ x ∈ a, x ≠ c) : cutA c a = a ∧ hasB c a = false := by
  unfold cutA hasB
  rw [ix_no c a h]
  exact ⟨List.take_length, by simp⟩

end Go.Proofs.YtiplalbicibahaaGreatDoor.Nm

/- privacy: a rule that was read is read again (pure). -/
set_option maxRecDepth 100000
namespace Go.Proofs.YtiplalbicibahaaGreatDoor
open Go.RowKit Go.Joins Go.Shelf

def Rg (r : Rul) : Prop := (r.k = wAll ∧ r.v = []) ∨ (r.k = wJid ∧ Nm.localN r.v = (r.v, 0)) ∨ (r.k = wGroup ∧ nameE r.v = 0) ∨ (r.k = wSub ∧ isSubB r.v = true)
def tailT (r : Rul) : By := if (r.k == wAll) = true then r.k else r.k ++ 32 :: r.v
theorem written_is (r : Rul) : writtenR r = verdictT r ++ 32 :: (wayT r ++ 32 :: tailT r) := by
  unfold writtenR headT tailT
  split <;> simp
theorem no32 {l : By} (h : (l.all fun b => b != 32) = true) : ∀ x ∈ l, x ≠ 32 := fun x hx => by
  have := List.all_eq_true.1 h x hx
  simpa using this
theorem verdict_back (r : Rul) (X : By) : verdictR (verdictT r ++ 32 :: X) = (r.al, X, 0) := by
  have hn : ∀ x ∈ verdictT r, x ≠ 32 := by unfold verdictT; split <;> exact no32 (by decide)
  obtain ⟨h1, h2, h3⟩ := Nm.cut_app 32 (verdictT r) X hn
  unfold verdictR
  rw [if_pos h3, h1, h2]
  unfold verdictT
  cases r.al <;> rfl
theorem ways_back (r : Rul) (h : (r.i || r.o) = true) (X : By) : waysR (wayT r ++ 32 :: X) = (r.i, r.o, X, 0) := by
  have hn : ∀ x ∈ wayT r, x ≠ 32 := by
    unfold wayT
    split
    · exact no32 (by decide)
    · split <;> exact no32 (by decide)
  obtain ⟨h1, h2, h3⟩ := Nm.cut_app 32 (wayT r) X hn
  unfold waysR
  rw [if_pos h3, h1, h2]
  unfold wayT
  obtain ⟨al, i, o, k, v⟩ := r
  dsimp only at h ⊢
  cases i <;> cases o <;> first | rfl | cases h
theorem whom_back (r : Rul) (h : Rg r) : whomR (tailT r) = (r.k, r.v, 0) := by
  obtain ⟨al, i, o, k, v⟩ := r
  unfold Rg at h
  unfold tailT
  dsimp only at h ⊢
  have key : ∀ K : By, K ≠ wAll → (∀ x ∈ K, x ≠ 32) → (valueR K v) = (v, 0) → whomR (K ++ 32 :: v) = (K, v, 0) := fun K hK hn hv => by
    obtain ⟨h1, h2, h3⟩ := Nm.cut_app 32 K v hn
    have hne : (K ++ 32 :: v == wAll) = false := by
      rw [beq_eq_false_iff_ne]
      intro e
      have : (32 : UInt8) ∈ wAll := by rw [← e]; simp
      revert this; decide
    unfold whomR
    rw [hne, if_neg (by decide), if_pos h3, h1, h2, hv]
    rfl
  rcases h with ⟨rfl, rfl⟩ | ⟨rfl, h⟩ | ⟨rfl, h⟩ | ⟨rfl, h⟩
  · rfl
  · rw [if_neg (by decide)]
    exact key wJid (by decide) (no32 (by decide)) (by unfold valueR; rw [if_pos (by decide)]; exact h)
  · rw [if_neg (by decide)]
    exact key wGroup (by decide) (no32 (by decide)) (by unfold valueR; rw [if_neg (by decide), if_pos (by decide), if_pos h])
  · rw [if_neg (by decide)]
    exact key wSub (by decide) (no32 (by decide)) (by unfold valueR; rw [if_neg (by decide), if_neg (by decide), h]; rfl)
theorem parse_written (r : Rul) (h : Rg r) (hw : (r.i || r.o) = true) : parseR (writtenR r) = (r, 0) := by
  rw [written_is]
  unfold parseR
  rw [verdict_back, if_pos rfl, ways_back r hw, if_pos rfl, whom_back r h, if_pos rfl]
theorem value_good {k l : By} (h : (valueR k l).2 = 0) : (k = wJid ∧ Nm.localN (valueR k l).1 = ((valueR k l).1, 0)) ∨ (k = wGroup ∧ nameE (valueR k l).1 = 0) ∨ (k = wSub ∧ isSubB (valueR k l).1 = true) := by
  unfold valueR at h ⊢
  by_cases h1 : (k == wJid) = true
  · rw [if_pos h1] at h ⊢
    left
    refine ⟨beq_iff_eq.1 h1, ?_⟩
    have e : Nm.localN l = ((Nm.localN l).1, 0) := Prod.ext rfl h
    exact (Nm.local_idem e).1
  · rw [if_neg h1] at h ⊢
    by_cases h2 : (k == wGroup) = true
    · rw [if_pos h2] at h ⊢
      by_cases h3 : nameE l = 0
      · rw [if_pos h3]
        exact Or.inr (Or.inl ⟨beq_iff_eq.1 h2, h3⟩)
      · rw [if_neg h3] at h; exact absurd h h3
    · rw [if_neg h2] at h ⊢
      by_cases h3 : (k == wSub && isSubB l) = true
      · rw [if_pos h3]
        simp only [Bool.and_eq_true, beq_iff_eq] at h3
        exact Or.inr (Or.inr h3)
      · rw [if_neg h3] at h; cases h
theorem parse_good {l : By} (h : (parseR l).2 = 0) : Rg (parseR l).1 := by
  have hW : ∀ {m : By}, (whomR m).2.2 = 0 → ((whomR m).1 = wAll ∧ (whomR m).2.1 = []) ∨ ((whomR m).1 = wJid ∧ Nm.localN (whomR m).2.1 = ((whomR m).2.1, 0)) ∨ ((whomR m).1 = wGroup ∧ nameE (whomR m).2.1 = 0) ∨ ((whomR m).1 = wSub ∧ isSubB (whomR m).2.1 = true) := fun {m} hm => by
    unfold whomR at hm ⊢
    by_cases h1 : (m == wAll) = true
    · rw [if_pos h1]; exact Or.inl ⟨rfl, rfl⟩
    · rw [if_neg h1] at hm ⊢
      by_cases h2 : Nm.hasB 32 m = true
      · rw [if_pos h2] at hm ⊢
        by_cases h3 : (valueR (Nm.cutA 32 m) (Nm.cutZ 32 m)).2 = 0
        · rw [if_pos h3]
          exact Or.inr (value_good h3)
        · rw [if_neg h3] at hm; exact absurd hm h3
      · rw [if_neg h2] at hm; cases hm
  unfold parseR at h ⊢
  split at h
  · rename_i h1
    rw [if_pos h1]
    split at h
    · rename_i h2
      rw [if_pos h2]
      split at h
      · rename_i h3
        rw [if_pos h3]
        exact hW h3
      · rename_i h3; exact absurd h h3
    · rename_i h2; exact absurd h h2
  · rename_i h1; exact absurd h h1
/-- What was read is read again. -/
theorem parse_back {l : By} (h : (parseR l).2 = 0) : parseR (writtenR (parseR l).1) = ((parseR l).1, 0) := parse_written _ (parse_good h) (way_ok h)
def RulB (r : Rul) : Prop := parseR (writtenR r) = (r, 0)
theorem read_good : ∀ {ts : List By}, (readR ts).2 = 0 → ∀ r ∈ (readR ts).1, RulB r
  | [], _, r, hr => by cases hr
  | t :: ts, h, r, hr => by
    rw [readR] at h hr
    by_cases h1 : (parseR t).2 = 0
    · rw [if_pos h1] at h hr
      by_cases h2 : (readR ts).2 = 0
      · rw [if_pos h2] at hr
        rcases List.mem_cons.1 hr with e | e
        · rw [e]; exact parse_back h1
        · exact read_good h2 r e
      · rw [if_neg h2] at h; exact absurd h h2
    · rw [if_neg h1] at h; exact absurd h h1
theorem read_written : ∀ {rs : List Rul}, (∀ r ∈ rs, RulB r) → readR (rs.map writtenR) = (rs, 0)
  | [], _ => rfl
  | r :: rs, h => by
    have h1 : parseR (writtenR r) = (r, 0) := h r (List.mem_cons_self ..)
    have ih := read_written (fun q hq => h q (List.mem_cons_of_mem _ hq))
    rw [List.map_cons, readR, h1, if_pos rfl, ih, if_pos rfl]
end Go.Proofs.YtiplalbicibahaaGreatDoor

/- privacy: what Load reads, by definition; lists that were kept are read again as they were (pure). -/
set_option maxRecDepth 100000
namespace Go.Proofs.YtiplalbicibahaaGreatDoor
open Go.RowKit Go.Joins Go.Shelf

def stepB (P : Pl) (s : By) (ts : List By) : Bool := ((setR P s ts).1 == 0) && (textsK (setR P s ts).2 s == ts)
def fillR : Pl → List By → List (List By) → Option Pl
  | P, [], _ => some P
  | P, s :: ns, tss => if stepB P s (tss.headD []) = true then fillR (setR P s (tss.headD [])).2 ns tss.tail else none
def lastR (us : By) : Option Pl → Option Pl
  | none => none
  | some P => if (defaultR P us).1 = 0 then some (defaultR P us).2 else none
def loadR (li ru : Int) (us : By) (ns : List By) (tss : List (List By)) : Option Pl :=
  if (bnd li && bnd ru) = true ∧ tss.length = ns.length ∧ riseR ns = true then lastR us (fillR (pl0 li ru) ns tss) else none

/-! ### as the document asks: each name for itself -/
def riseO (pv : Option By) (s : By) : Bool := match pv with | none => true | some x => ltB x s
def fillQ : Option By → Pl → List By → List (List By) → Option Pl
  | _, P, [], _ => some P
  | pv, P, s :: ns, tss => if riseO pv s = true ∧ stepB P s (tss.headD []) = true then fillQ (some s) (setR P s (tss.headD [])).2 ns tss.tail else none
theorem rise_cons (x y : By) (r : List By) : riseR (x :: y :: r) = (ltB x y && riseR (y :: r)) := by
  unfold riseR
  simp only [List.length_cons, Nat.add_sub_cancel]
  rw [List.range_succ_eq_map, List.all_cons, List.all_map]
  rfl
theorem rise_one (x : By) : riseR [x] = true := rfl
def riseF (pv : Option By) (ns : List By) : Bool := match pv with | none => riseR ns | some x => riseR (x :: ns)
theorem rise_from (pv : Option By) (s : By) (r : List By) : riseF pv (s :: r) = (riseO pv s && riseR (s :: r)) := by
  cases pv with
  | none => rfl
  | some x => exact rise_cons x s r
theorem fillQ_is : ∀ (ns : List By) (pv : Option By) (P : Pl) (tss : List (List By)), fillQ pv P ns tss = if riseF pv ns = true then fillR P ns tss else none
  | [], pv, P, tss => by
    have : riseF pv [] = true := by cases pv <;> rfl
    rw [this, if_pos rfl, fillQ, fillR]
  | s :: r, pv, P, tss => by
    rw [fillQ, fillR, rise_from, fillQ_is r (some s)]
    show _ = if (riseO pv s && riseF (some s) r) = true then _ else _
    cases riseO pv s <;> cases riseF (some s) r <;> cases stepB P s (tss.headD []) <;> rfl
theorem set_zeroP {P : Pl} {s : By} {ts : List By} (h : (setR P s ts).1 = 0) : nameE s = 0 ∧ (readR ts).2 = 0 ∧ fullR P s ts.length = false ∧ (setR P s ts).2 = putP P s (readR ts).1 := by
  unfold setR at h ⊢
  by_cases h1 : nameE s = 0
  · rw [if_neg (by simp [h1])] at h ⊢
    by_cases h2 : (readR ts).2 = 0
    · rw [if_neg (by simp [h2])] at h ⊢
      cases h3 : fullR P s ts.length with
      | true => rw [h3, if_pos rfl] at h; cases h
      | false => exact ⟨h1, h2, rfl, rfl⟩
    · rw [if_pos h2] at h; exact absurd h h2
  · rw [if_pos h1] at h; exact absurd h h1
theorem read_each : ∀ {ts : List By}, (readR ts).2 = 0 → (∀ t ∈ ts, (parseR t).2 = 0) ∧ (readR ts).1 = ts.map fun t => (parseR t).1
  | [], _ => ⟨fun t h => (by cases h), rfl⟩
  | t :: ts, h => by
    rw [readR] at h ⊢
    by_cases h1 : (parseR t).2 = 0
    · rw [if_pos h1] at h ⊢
      by_cases h2 : (readR ts).2 = 0
      · obtain ⟨i1, i2⟩ := read_each h2
        rw [if_pos h2]
        refine ⟨fun u hu => ?_, by rw [i2]; rfl⟩
        rcases List.mem_cons.1 hu with e | e
        · rw [e]; exact h1
        · exact i1 u e
      · rw [if_neg h2] at h; exact absurd h h2
    · rw [if_neg h1] at h; exact absurd h h1
theorem step_yes {P : Pl} {s : By} {ts : List By} (h : stepB P s ts = true) : nameE s = 0 ∧ (ts.length : Int) ≤ P.ru ∧ (∀ t ∈ ts, (parseR t).2 = 0 ∧ writeQ (parseR t).1 = t) ∧ (setR P s ts).1 = 0 ∧ (setR P s ts).2 = putP P s (readR ts).1 ∧ fullR P s ts.length = false := by
  unfold stepB at h
  simp only [Bool.and_eq_true, beq_iff_eq] at h
  obtain ⟨h0, h5⟩ := h
  obtain ⟨h1, h2, h3, h4⟩ := set_zeroP h0
  obtain ⟨e1, e2⟩ := read_each h2
  rw [h4, putP_self, e2, List.map_map] at h5
  refine ⟨h1, ?_, fun t ht => ⟨e1 t ht, ?_⟩, h0, h4, h3⟩
  · unfold fullR at h3
    simp only [Bool.or_eq_false_iff, decide_eq_false_iff_not] at h3
    omega
  · rw [(parse_ok (e1 t ht)).same]
    obtain ⟨i, hi⟩ := List.mem_iff_getElem?.1 ht
    have := congrArg (fun l => l[i]?) h5
    simp only [List.getElem?_map, hi, Option.map_some, Function.comp] at this
    exact Option.some.inj this
theorem step_is {P : Pl} {s : By} {ts : List By} (h : ∀ t ∈ ts, (parseR t).2 = 0 ∧ writeQ (parseR t).1 = t) : stepB P s ts = ((setR P s ts).1 == 0) := by
  unfold stepB
  cases h0 : (setR P s ts).1 == 0 with
  | false => rfl
  | true =>
    obtain ⟨_, h2, _, h4⟩ := set_zeroP (beq_iff_eq.1 h0)
    obtain ⟨e1, e2⟩ := read_each h2
    rw [h4, putP_self, e2, List.map_map, Bool.true_and, beq_iff_eq]
    conv => rhs; rw [← List.map_id ts]
    exact List.map_congr_left (fun t ht => by
      show writtenR (parseR t).1 = t
      rw [← (parse_ok (h t ht).1).same]; exact (h t ht).2)
theorem step_no {P : Pl} {s : By} {ts : List By} (h : ¬ (nameE s = 0 ∧ (ts.length : Int) ≤ P.ru ∧ (∀ t ∈ ts, (parseR t).2 = 0 ∧ writeQ (parseR t).1 = t) ∧ (setR P s ts).1 = 0)) : stepB P s ts = false := by
  cases hb : stepB P s ts with
  | false => rfl
  | true => obtain ⟨a, b, c, d, _⟩ := step_yes hb; exact absurd ⟨a, b, c, d⟩ h

/-! ### what lists always keep -/
structure Kept (P : Pl) : Prop where
  bl : bnd P.li = true
  br : bnd P.ru = true
  nd : P.ks.Nodup
  mem : ∀ s, (P.m s).isSome = true ↔ s ∈ P.ks
  nm : ∀ k ∈ P.ks, nameE k = 0
  kn : (P.ks.length : Int) ≤ P.li
  rl : ∀ k, (((P.m k).getD []).length : Int) ≤ P.ru
  rb : ∀ k, ∀ r ∈ (P.m k).getD [], RulB r
  us : P.us = [] ∨ P.us ∈ P.ks
theorem bnd_nn {n : Int} (h : bnd n = true) : 0 ≤ n ∧ n ≤ 1000 := by
  unfold bnd at h
  simpa using h
theorem Kept.zero {l r : Int} (hl : bnd l = true) (hr : bnd r = true) : Kept (pl0 l r) :=
  ⟨hl, hr, List.nodup_nil, fun s => by simp [pl0], fun k h => (by cases h), (bnd_nn hl).1, fun k => (bnd_nn hr).1, fun k r h => (by cases h), Or.inl rfl⟩
theorem Kept.put {P : Pl} (h : Kept P) (s : By) (rs : List Rul) (hn : nameE s = 0) (hf : fullR P s rs.length = false) (hr : ∀ r ∈ rs, RulB r) : Kept (putP P s rs) := by
  unfold fullR at hf
  simp only [Bool.or_eq_false_iff, decide_eq_false_iff_not] at hf
  obtain ⟨f1, f2⟩ := hf
  by_cases hs : (P.m s).isSome = true
  · have hks : (putP P s rs).ks = P.ks := by unfold putP; rw [if_pos hs]
    refine ⟨h.bl, h.br, by rw [hks]; exact h.nd, fun u => ?_, by rw [hks]; exact h.nm, by rw [hks]; exact h.kn, fun k => ?_, fun k => ?_, by rw [hks]; exact h.us⟩
    · rw [hks]
      by_cases hu : u = s
      · subst hu; unfold putP; dsimp only; rw [putM_same]; simp [(h.mem u).1 hs]
      · unfold putP; dsimp only; rw [putM_other _ _ hu]; exact h.mem u
    · by_cases hk : k = s
      · subst hk; rw [putP_mine]; show (rs.length : Int) ≤ P.ru; omega
      · rw [putP_rules P s rs k hk]; exact h.rl k
    · by_cases hk : k = s
      · subst hk; rw [putP_mine]; exact hr
      · rw [putP_rules P s rs k hk]; exact h.rb k
  · have hks : (putP P s rs).ks = s :: P.ks := by unfold putP; rw [if_neg hs]
    have hns : s ∉ P.ks := fun e => hs ((h.mem s).2 e)
    have hs2 : (P.m s).isSome = false := by simpa using hs
    rw [hs2] at f2
    refine ⟨h.bl, h.br, by rw [hks]; exact List.nodup_cons.2 ⟨hns, h.nd⟩, fun u => ?_, fun k hk => ?_, ?_, fun k => ?_, fun k => ?_, ?_⟩
    · rw [hks]
      by_cases hu : u = s
      · subst hu; unfold putP; dsimp only; rw [putM_same]; simp
      · unfold putP; dsimp only; rw [putM_other _ _ hu, h.mem u]; simp [hu]
    · rw [hks] at hk
      rcases List.mem_cons.1 hk with e | e
      · rw [e]; exact hn
      · exact h.nm k e
    · rw [hks, List.length_cons]
      simp at f2
      show ((P.ks.length + 1 : Nat) : Int) ≤ P.li
      omega
    · by_cases hk : k = s
      · subst hk; rw [putP_mine]; show (rs.length : Int) ≤ P.ru; omega
      · rw [putP_rules P s rs k hk]; exact h.rl k
    · by_cases hk : k = s
      · subst hk; rw [putP_mine]; exact hr
      · rw [putP_rules P s rs k hk]; exact h.rb k
    · rw [hks]
      exact h.us.imp id (fun e => List.mem_cons_of_mem _ e)
theorem Kept.set {P : Pl} (h : Kept P) (s : By) (ts : List By) : Kept (setR P s ts).2 := by
  unfold setR
  split
  · exact h
  · rename_i h1
    split
    · exact h
    · rename_i h2
      have h2 : (readR ts).2 = 0 := by omega
      cases h3 : fullR P s ts.length with
      | true => rw [if_pos rfl]; exact h
      | false =>
        rw [if_neg (by decide)]
        exact h.put s _ (by omega) (by rw [readR_le ts h2]; exact h3) (read_good h2)
theorem Kept.drop {P : Pl} (h : Kept P) (s : By) : Kept (dropR P s).2 := by
  unfold dropR
  split
  · exact h
  · split
    · exact h
    · rename_i h1 h2
      refine ⟨h.bl, h.br, h.nd.filter _, fun u => ?_, fun k hk => h.nm k (List.mem_filter.1 hk).1, ?_, fun k => ?_, fun k => ?_, ?_⟩
      · unfold dropP dropK
        dsimp only
        by_cases hu : u = s
        · subst hu; rw [putM_same]; simp
        · rw [putM_other _ _ hu, h.mem u]; simp [hu]
      · have := List.length_filter_le (fun k => !(k == s)) P.ks
        have := h.kn
        show ((dropK P.ks s).length : Int) ≤ P.li
        unfold dropK
        omega
      · by_cases hk : k = s
        · subst hk; unfold dropP; dsimp only; rw [putM_same]; exact (bnd_nn h.br).1
        · rw [dropP_rules P s k hk]; exact h.rl k
      · by_cases hk : k = s
        · subst hk; unfold dropP; dsimp only; rw [putM_same]; intro r hr; cases hr
        · rw [dropP_rules P s k hk]; exact h.rb k
      · refine h.us.imp id (fun e => List.mem_filter.2 ⟨e, ?_⟩)
        have h3 : (s == P.us) = false := by simpa using h2
        rw [Bool.beq_comm] at h3
        show (!(P.us == s)) = true
        rw [h3]; rfl
theorem Kept.usual {P : Pl} (h : Kept P) (s : By) : Kept (defaultR P s).2 := by
  unfold defaultR
  split
  · exact h
  · rename_i h1
    refine ⟨h.bl, h.br, h.nd, h.mem, h.nm, h.kn, h.rl, h.rb, ?_⟩
    show s = [] ∨ s ∈ P.ks
    cases hs : s.isEmpty with
    | true => left; exact List.isEmpty_iff.1 hs
    | false =>
      right
      rw [← h.mem s]
      cases hm : (P.m s).isSome with
      | true => rfl
      | false => rw [hs, hm] at h1; exact absurd rfl h1

/-! ### read again -/
theorem textsK_some {P : Pl} {s : By} (h : ∀ r ∈ (P.m s).getD [], RulB r) : readR (textsK P s) = ((P.m s).getD [], 0) := read_written h
theorem fill_back {P : Pl} (hP : Kept P) : ∀ (ns : List By) (A : Pl), A.li = P.li → A.ru = P.ru → ns.Nodup → (∀ s ∈ ns, s ∈ P.ks ∧ A.m s = none) → ((A.ks.length + ns.length : Nat) : Int) ≤ P.li →
    ∃ A', fillR A ns (ns.map (textsK P)) = some A' ∧ A'.li = P.li ∧ A'.ru = P.ru ∧ A'.us = A.us ∧ ∀ s, A'.m s = if s ∈ ns then P.m s else A.m s
  | [], A, h1, h2, _, _, _ => ⟨A, rfl, h1, h2, rfl, fun s => by simp⟩
  | s :: ns, A, h1, h2, h3, h4, h5 => by
    obtain ⟨n1, n2⟩ := List.nodup_cons.1 h3
    obtain ⟨k1, k2⟩ := h4 s (List.mem_cons_self ..)
    have hr : readR (textsK P s) = ((P.m s).getD [], 0) := textsK_some (hP.rb s)
    have hlen : (textsK P s).length = ((P.m s).getD []).length := by unfold textsK; rw [List.length_map]
    have hfull : fullR A s (textsK P s).length = false := by
      unfold fullR
      rw [k2, hlen]
      have := hP.rl s
      rw [List.length_cons] at h5
      simp
      omega
    have hset : setR A s (textsK P s) = (0, putP A s ((P.m s).getD [])) := by
      unfold setR
      rw [hP.nm s k1, if_neg (by simp), hr, if_neg (by simp), hfull, if_neg (by decide)]
    have hstep : stepB A s (textsK P s) = true := by
      unfold stepB
      rw [hset]
      dsimp only
      rw [putP_self]
      unfold textsK
      simp
    have hks : (putP A s ((P.m s).getD [])).ks.length = A.ks.length + 1 := by
      unfold putP
      rw [k2, if_neg (by simp)]
      rfl
    have hm : ∃ rs, P.m s = some rs := by
      have := (hP.mem s).2 k1
      cases hx : P.m s with
      | none => rw [hx] at this; cases this
      | some rs => exact ⟨rs, rfl⟩
    obtain ⟨rs, hrs⟩ := hm
    obtain ⟨A', e1, e2, e3, e4, e5⟩ := fill_back hP ns (putP A s ((P.m s).getD [])) h1 h2 n2 (fun u hu => by
      refine ⟨(h4 u (List.mem_cons_of_mem _ hu)).1, ?_⟩
      have hus : u ≠ s := fun e => n1 (by rw [← e]; exact hu)
      unfold putP
      dsimp only
      rw [putM_other _ _ hus]
      exact (h4 u (List.mem_cons_of_mem _ hu)).2) (by rw [hks]; rw [List.length_cons] at h5; omega)
    refine ⟨A', ?_, e2, e3, e4, fun u => ?_⟩
    · rw [fillR, List.map_cons, List.headD_cons, List.tail_cons, hstep, if_pos rfl, hset]
      exact e1
    · rw [e5]
      by_cases hu : u = s
      · subst hu
        rw [if_neg n1, if_pos (List.mem_cons_self ..)]
        unfold putP
        dsimp only
        rw [putM_same, hrs]
        rfl
      · by_cases hn : u ∈ ns
        · rw [if_pos hn, if_pos (List.mem_cons_of_mem _ hn)]
        · rw [if_neg hn, if_neg (fun e => (List.mem_cons.1 e).elim hu hn)]
          unfold putP
          dsimp only
          rw [putM_other _ _ hu]
theorem asc_rise : ∀ {ns : List By}, Asc ns → riseR ns = true
  | [], _ => rfl
  | [x], _ => rfl
  | x :: y :: r, h => by
    rw [rise_cons, asc_rise (List.pairwise_cons.1 h).2, Bool.and_true]
    exact decide_eq_true ((List.pairwise_cons.1 h).1 y (List.mem_cons_self ..))
theorem reload {P : Pl} (hP : Kept P) : ∃ P', loadR P.li P.ru P.us (sortK P.ks) ((sortK P.ks).map (textsK P)) = some P' ∧ P'.li = P.li ∧ P'.ru = P.ru ∧ P'.us = P.us ∧ ∀ s, P'.m s = P.m s := by
  obtain ⟨A, e1, e2, e3, e4, e5⟩ := fill_back hP (sortK P.ks) (pl0 P.li P.ru) rfl rfl (asc_nodup (asc_sortK hP.nd)) (fun s hs => ⟨sortK_mem.1 hs, rfl⟩) (by
    show ((0 + (sortK P.ks).length : Nat) : Int) ≤ P.li
    rw [sortK_len, Nat.zero_add]; exact hP.kn)
  have hm : ∀ s, A.m s = P.m s := fun s => by
    rw [e5]
    by_cases hs : s ∈ sortK P.ks
    · rw [if_pos hs]
    · rw [if_neg hs]
      show none = P.m s
      cases hx : P.m s with
      | none => rfl
      | some rs => exact absurd (sortK_mem.2 ((hP.mem s).1 (by rw [hx]; rfl))) hs
  have hd : defaultR A P.us = (0, { A with us := P.us }) := by
    unfold defaultR
    rw [if_neg]
    rcases hP.us with e | e
    · rw [e]; simp
    · rw [hm, (hP.mem P.us).2 e]; simp
  refine ⟨{ A with us := P.us }, ?_, e2, e3, rfl, hm⟩
  unfold loadR
  rw [if_pos ⟨by rw [hP.bl, hP.br]; rfl, by rw [List.length_map], asc_rise (asc_sortK hP.nd)⟩, e1]
  show (if (defaultR A P.us).1 = 0 then some (defaultR A P.us).2 else none) = _
  rw [hd, if_pos rfl]
end Go.Proofs.YtiplalbicibahaaGreatDoor
