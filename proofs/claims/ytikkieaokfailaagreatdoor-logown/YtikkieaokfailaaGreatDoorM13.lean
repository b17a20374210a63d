/- Texts of one seat, one behind the other: OwnP, OwnH, FrPlan, OwnL, OwnM. -/
import Derived.Test.YtikkieaokfailaaGreatDoorM1
import Derived.Laws.OwnMore
namespace Go.Proofs.YtikkieaokfailaaGreatDoor
open Go.RowKit
structure Ow (w : World) (v : Value) (x : List Int) : Prop where
 own : w.ownsRow 0 5 1 v x.length (bc x)
 bd : Bd x
def Ows (w : World) : List Value → List (List Int) → Prop
 | [], [] => True
 | v :: vs, x :: xs => Ow w v x ∧ Ows w vs xs
 | [], _ :: _ => False
 | _ :: _, [] => False
def blks (vs : List Value) : List Nat := vs.filterMap Value.ownBlock
theorem blks_append (vs us : List Value) : blks (vs ++ us) = blks vs ++ blks us := List.filterMap_append ..
theorem mem_blks {vs : List Value} {k : Nat} : k ∈ blks vs ↔ ∃ v ∈ vs, v.ownBlock = some k := by unfold blks; rw [List.mem_filterMap]
theorem Ow.keep {S : Nat → Prop} {w w' : World} {v : Value} {x : List Int} (h : Ow w v x) (hk : Keep S w w') (hs : ∀ k, v.ownBlock = some k → ¬ S k) : Ow w' v x :=
 ⟨own_keep h.own hk hs, h.bd⟩
theorem Ows.len {w : World} : ∀ {vs : List Value} {xs : List (List Int)}, Ows w vs xs → vs.length = xs.length
 | [], [], _ => rfl
 | _ :: _, _ :: _, h => by simp [Ows.len h.2]
 | [], _ :: _, h => h.elim
 | _ :: _, [], h => h.elim
theorem Ows.keep {S : Nat → Prop} {w w' : World} (hk : Keep S w w') : ∀ {vs : List Value} {xs : List (List Int)}, Ows w vs xs → (∀ k ∈ blks vs, ¬ S k) → Ows w' vs xs
 | [], [], _, _ => trivial
 | [], _ :: _, h, _ => h.elim
 | _ :: _, [], h, _ => h.elim
 | v :: vs, x :: xs, h, hs =>
  ⟨h.1.keep hk (fun k e => hs k (mem_blks.2 ⟨v, List.mem_cons_self .., e⟩)), Ows.keep hk h.2 (fun k e => hs k (by obtain ⟨u, hu, hb⟩ := mem_blks.1 e; exact mem_blks.2 ⟨u, List.mem_cons_of_mem _ hu, hb⟩))⟩
theorem Ows.append {w : World} : ∀ {vs : List Value} {xs : List (List Int)} {us : List Value} {ys : List (List Int)}, Ows w vs xs → Ows w us ys → Ows w (vs ++ us) (xs ++ ys)
 | [], [], _, _, _, h2 => h2
 | [], _ :: _, _, _, h, _ => h.elim
 | _ :: _, [], _, _, h, _ => h.elim
 | _ :: _, _ :: _, _, _, h, h2 => ⟨h.1, Ows.append h.2 h2⟩
theorem Ows.lt {w : World} : ∀ {vs : List Value} {xs : List (List Int)}, Ows w vs xs → ∀ k ∈ blks vs, k < w.heap.size
 | [], [], _, _, hk => by cases hk
 | [], _ :: _, h, _, _ => h.elim
 | _ :: _, [], h, _, _ => h.elim
 | v :: vs, x :: xs, h, k, hk => by
  obtain ⟨u, hu, hb⟩ := mem_blks.1 hk
  rcases List.mem_cons.1 hu with rfl | hu
  ·exact (h.1.own.lt k hb).2
  ·exact Ows.lt h.2 k (mem_blks.2 ⟨u, hu, hb⟩)
theorem Ows.get {w : World} : ∀ {vs : List Value} {xs : List (List Int)}, Ows w vs xs → ∀ {i : Nat} {v : Value}, vs[i]? = some v → Ow w v (xs.getD i [])
 | [], [], _, _, _, hv => by simp at hv
 | [], _ :: _, h, _, _, _ => h.elim
 | _ :: _, [], h, _, _, _ => h.elim
 | _ :: _, _ :: _, h, 0, _, hv => by cases hv; exact h.1
 | _ :: vs, _ :: xs, h, i + 1, v, hv => by
  have := Ows.get h.2 (i := i) (v := v) (by simpa using hv)
  simpa using this
theorem Ows.set {S : Nat → Prop} {w w' : World} (hk : Keep S w w') : ∀ {vs : List Value} {xs : List (List Int)}, Ows w vs xs → (blks vs).Nodup → ∀ {i : Nat} {v : Value} {x : List Int}, vs[i]? = some v → (∀ k ∈ blks vs, S k → v.ownBlock = some k) → Ow w' v x → Ows w' vs (xs.set i x)
 | [], [], _, _, _, _, _, hv, _, _ => by simp at hv
 | [], _ :: _, h, _, _, _, _, _, _, _ => h.elim
 | _ :: _, [], h, _, _, _, _, _, _, _ => h.elim
 | u :: vs, y :: xs, h, hn, 0, v, x, hv, hs, hw => by
  cases hv
  refine ⟨hw, Ows.keep hk h.2 (fun k e hS => ?_)⟩
  have e1 := hs k (by obtain ⟨u', hu', hb⟩ := mem_blks.1 e; exact mem_blks.2 ⟨u', List.mem_cons_of_mem _ hu', hb⟩) hS
  unfold blks at hn
  rw [List.filterMap_cons_some e1] at hn
  exact (List.nodup_cons.1 hn).1 e
 | u :: vs, y :: xs, h, hn, i + 1, v, x, hv, hs, hw => by
  have hv' : vs[i]? = some v := by simpa using hv
  have hmem : v ∈ vs := List.mem_of_getElem? hv'
  refine ⟨h.1.keep hk (fun k e hS => ?_), ?_⟩
  ·have e1 := hs k (mem_blks.2 ⟨u, List.mem_cons_self .., e⟩) hS
   unfold blks at hn
   rw [List.filterMap_cons_some e] at hn
   exact (List.nodup_cons.1 hn).1 (mem_blks.2 ⟨v, hmem, e1⟩)
  ·refine Ows.set hk h.2 ?_ hv' (fun k e hS => hs k (by obtain ⟨u', hu', hb⟩ := mem_blks.1 e; exact mem_blks.2 ⟨u', List.mem_cons_of_mem _ hu', hb⟩) hS) hw
   unfold blks at hn ⊢
   cases e : u.ownBlock with
   | none => rw [List.filterMap_cons_none e] at hn; exact hn
   | some k => rw [List.filterMap_cons_some e] at hn; exact (List.nodup_cons.1 hn).2
end Go.Proofs.YtikkieaokfailaaGreatDoor

namespace Go.Proofs.YtikkieaokfailaaGreatDoor
open Go.RowKit
theorem ow_info : (Tryz.prog.info? 29).map (fun i => (i.zero, i.size, i.bytes)) = some (some (.slice none 0 0), 1, 24) := by kernel_rfl
theorem own_ty {W : World} {lo n sz : Nat} {e : TypeId} {v : Value} {xs : List Value} (h : W.ownsRow lo e sz v n xs) {k : Nat} (hk : v.ownBlock = some k) : ∃ cur, W.heap[k]? = some (.cells cur e (0, 0)) := by
 rcases h.2 with ⟨rfl, _⟩ | ⟨g, cap', cur, rfl, hg, hh, _⟩
 ·cases hk
 ·cases hk; exact ⟨cur, hh⟩
theorem cells_ty {W : World} {k : Nat} {c1 c2 : Array Value} {e1 e2 : TypeId} {q1 q2 : Nat × Nat} (h1 : W.heap[k]? = some (.cells c1 e1 q1)) (h2 : W.heap[k]? = some (.cells c2 e2 q2)) : e1 = e2 := by
 rw [h1] at h2
 injection h2 with h
 injection h
theorem own_slO {W : World} {lo n sz : Nat} {e : TypeId} {v : Value} {xs : List Value} (h : W.ownsRow lo e sz v n xs) : ∃ a c, v = .slice a n c := by
 rcases h.2 with ⟨rfl, rfl⟩ | ⟨g, cap, cur, rfl, _⟩
 ·exact ⟨none, 0, rfl⟩
 ·exact ⟨_, _, rfl⟩
theorem own_drew {W : World} {lo n sz : Nat} {e : TypeId} {v : Value} {xs : List Value} (h : W.ownsRow lo e sz v n xs) : W.drew.ownsRow lo e sz v n xs := h
theorem Ows.ty {w : World} : ∀ {vs : List Value} {xs : List (List Int)}, Ows w vs xs → ∀ {k : Nat}, k ∈ blks vs → ∃ cur, w.heap[k]? = some (.cells cur 5 (0, 0))
 | [], [], _, _, hk => by cases hk
 | [], _ :: _, h, _, _ => h.elim
 | _ :: _, [], h, _, _ => h.elim
 | v :: vs, x :: xs, h, k, hk => by
  obtain ⟨u, hu, hb⟩ := mem_blks.1 hk
  rcases List.mem_cons.1 hu with rfl | hu
  ·exact own_ty h.1.own hb
  ·exact Ows.ty h.2 (mem_blks.2 ⟨u, hu, hb⟩)
theorem Ow.one {w : World} {v : Value} {x : List Int} (h : Ow w v x) : v.oneCell' = true := by
 obtain ⟨a, c, rfl⟩ := own_slO h.own
 rfl
theorem Ow.rd {w : World} {v : Value} {x : List Int} (h : Ow w v x) : ∃ a c, v = .slice a x.length c ∧ Rd w a x.length c x := Rd.ofOwn h.own h.bd
theorem Ow.ofFrom {w : World} {B : Nat} {v : Value} {x : List Int} {n : Nat} (h : w.ownsRow B 5 1 v n (bc x)) (hb : Bd x) : Ow w v x := by
 have hl : n = x.length := by have := h.1; rw [bc_len] at this; omega
 subst hl
 exact ⟨own_weak h (Nat.zero_le _), hb⟩
structure Half (w : World) (rv : Value) (vs : List Value) (xs : List (List Int)) : Prop where
 row : w.ownsRow 0 29 1 rv vs.length vs
 ows : Ows w vs xs
def HF (rv : Value) (vs : List Value) (k : Nat) : Prop := rv.ownBlock = some k ∨ k ∈ blks vs
theorem Half.keep {S : Nat → Prop} {w w' : World} {rv : Value} {vs : List Value} {xs : List (List Int)} (h : Half w rv vs xs) (hk : Keep S w w') (hs : ∀ k, HF rv vs k → ¬ S k) : Half w' rv vs xs :=
 ⟨own_keep h.row hk (fun k e => hs k (.inl e)), h.ows.keep hk (fun k e => hs k (.inr e))⟩
theorem Half.lt {w : World} {rv : Value} {vs : List Value} {xs : List (List Int)} (h : Half w rv vs xs) : ∀ k, HF rv vs k → k < w.heap.size :=
 fun k e => e.elim (fun e => (h.row.lt k e).2) (fun e => h.ows.lt k e)
theorem Half.nil (w : World) : Half w (.slice none 0 0) [] [] := ⟨World.ownsRow_nil _ _ _ _, trivial⟩
theorem Half.not {w : World} {rv : Value} {vs : List Value} {xs : List (List Int)} (h : Half w rv vs xs) {p : Nat} {cs : Array Value} {t : TypeId} {q : Nat × Nat} (hp : w.heap[p]? = some (.cells cs t q)) (h1 : t ≠ 29) (h2 : t ≠ 5) : ¬ HF rv vs p := by
 rintro (e | e)
 ·obtain ⟨_, hc⟩ := own_ty h.row e; exact h1 (cells_ty hp hc)
 ·obtain ⟨_, hc⟩ := h.ows.ty e; exact h2 (cells_ty hp hc)
theorem row_apart {w : World} {rv : Value} {n : Nat} {us : List Value} (hr : w.ownsRow 0 29 1 rv n us) {vs : List Value} {xs : List (List Int)} (h : Ows w vs xs) : ∀ k, k ∈ blks vs → ¬ rv.ownBlock = some k := by
 intro k hk e
 obtain ⟨_, h1⟩ := own_ty hr e
 obtain ⟨_, h2⟩ := h.ty hk
 exact absurd (cells_ty h1 h2) (by decide)
theorem row_apart1 {w : World} {rv : Value} {n : Nat} {us : List Value} (hr : w.ownsRow 0 29 1 rv n us) {v : Value} {x : List Int} (h : Ow w v x) : ∀ k, v.ownBlock = some k → ¬ rv.ownBlock = some k := by
 intro k hk e
 obtain ⟨_, h1⟩ := own_ty hr e
 obtain ⟨_, h2⟩ := own_ty h.own hk
 exact absurd (cells_ty h1 h2) (by decide)
theorem Half.snoc {w w' : World} {rv rv' : Value} {vs : List Value} {xs : List (List Int)} {u : Value} {x : List Int} (h : Half w rv vs xs) (hu : Ow w u x) (hr : w'.ownsRow 0 29 1 rv' (vs.length + 1) (vs ++ [u])) (hk : Keep (fun k => rv.ownBlock = some k) w w') : Half w' rv' (vs ++ [u]) (xs ++ [x]) := by
 refine ⟨by rw [List.length_append]; exact hr, (h.ows.keep hk (row_apart h.row h.ows)).append ⟨hu.keep hk (row_apart1 h.row hu), trivial⟩⟩
theorem Half.cell {w : World} {rv : Value} {vs : List Value} {xs : List (List Int)} (h : Half w rv vs xs) {j : Nat} (hj : j < vs.length) : ∃ g cap a n c, rv = .slice (some ⟨g, 0, none⟩) vs.length cap ∧ w.cell? ⟨g, j, none⟩ = some (.slice a n c) ∧ vs[j]? = some (.slice a n c) ∧ Ow w (.slice a n c) (xs.getD j []) ∧ n = (xs.getD j []).length ∧ Rd w a n c (xs.getD j []) := by
 rcases h.row.2 with ⟨_, h0⟩ | ⟨g, cap, cur, hv, _⟩
 ·omega
 ·subst hv
  have hg : vs[j]? = some vs[j] := List.getElem?_eq_getElem hj
  have ho := h.ows.get hg
  obtain ⟨a, c, hv, hr⟩ := ho.rd
  rw [hv] at hg ho
  refine ⟨g, cap, a, _, c, rfl, ?_, hg, ho, rfl, hr⟩
  have := h.row.cells (g := g) rfl j _ hg
  rwa [add_flat, Nat.zero_add] at this
theorem blks_snoc (vs : List Value) (u : Value) (k : Nat) : k ∈ blks (vs ++ [u]) ↔ k ∈ blks vs ∨ u.ownBlock = some k := by
 rw [blks_append, List.mem_append]
 refine or_congr Iff.rfl ?_
 rw [mem_blks]
 simp
def Wh (w : World) (v v' : Value) (n m : Nat) : Prop := (∃ g cap, v = .slice (some ⟨g, 0, none⟩) n cap ∧ v' = .slice (some ⟨g, 0, none⟩) (n + m) cap) ∨ (v' = v ∧ m = 0) ∨ v'.ownBlock = some w.heap.size
theorem Wh.blk {w : World} {v v' : Value} {n m : Nat} (h : Wh w v v' n m) : ∀ k, v'.ownBlock = some k → v.ownBlock = some k ∨ w.heap.size ≤ k := by
 rcases h with ⟨g, cap, rfl, rfl⟩ | ⟨rfl, _⟩ | h
 ·exact fun k e => .inl e
 ·exact fun k e => .inl e
 ·intro k e; rw [h] at e; cases e; exact .inr (Nat.le_refl _)
set_option maxRecDepth 100000 in
theorem bytes_where {w : World} {base : Nat} {v : Value} {n : Nat} {xs : List Int} (hown : w.ownsRow base 5 1 v n (bc xs)) {ad : Addr} {m c : Nat} {ys : List Int} (hr : Rd w (some ad) m c ys) (hb : n + m ≤ 1000000000) {ty : TypeId} {v' : Value} {w' : World}
  (hrun : (Builtin.append_ #[29, 29] ty #[v, .slice (some ad) m c]).run Tryz.prog w = .ok v' w') : Wh w v v' n m := by
 obtain ⟨i0, hi, hz0, hz1, hz2⟩ := info_parts Tryz.info5
 have hl : (bc ys).length = m * i0.size := by rw [bc_len, hr.len, hz1]; omega
 rcases hown.2 with ⟨rfl, rfl⟩ | ⟨g, cap, cur, rfl, hbg, hg, hnc, hcm, hcs, htake⟩
 ·by_cases hm : m = 0
  ·subst hm
   right; left
   simp [Builtin.append_, run_underlying Tryz.underlying29, sizeOf, typeInfo, hi, Builtin.lenOf, Builtin.firstCells, loadCells, loadCellsFrom] at hrun
   exact ⟨hrun.1.symm, rfl⟩
  ·right; right
   have hr2 := run_append_nil (P := Tryz.prog) w 29 ty 5 i0 (.int .u8 0) Tryz.underlying29 hi hz0 ad m c (bc ys) hl (hr.news rfl) (by omega) (by omega) (by rw [hz2]; omega)
   rw [hr2] at hrun
   injection hrun with e _
   rw [← e]; rfl
 ·by_cases hroom : n + m ≤ cap
  ·left
   have hr2 := run_append_room (P := Tryz.prog) w 29 ty 5 i0 Tryz.underlying29 hi g n cap cur hg ad m c (bc ys) hl (hr.news rfl) (bc_one ys) hroom (by rw [hl, hcs, hz1]; omega)
   rw [hr2] at hrun
   injection hrun with e _
   exact ⟨g, cap, rfl, e.symm⟩
  ·right; right
   have hr2 := run_append_grow (P := Tryz.prog) w 29 ty 5 i0 (.int .u8 0) Tryz.underlying29 hi hz0 ⟨g, 0, none⟩ n cap (bc xs) (by rw [hown.1, hz1]) (hown.cells (g := g) rfl) ad m c (bc ys) hl (hr.news rfl) (by omega) (by omega) (growslice_fits (by omega) (by rw [hz2]; omega))
   rw [hr2] at hrun
   injection hrun with e _
   rw [← e]; rfl
theorem run_bytes {w : World} {base : Nat} {v : Value} {n : Nat} {xs : List Int} (ty : TypeId) (hown : w.ownsRow base 5 1 v n (bc xs)) {ao : Option Addr} {m c : Nat} {ys : List Int} (hr : Rd w ao m c ys) (hb : n + m ≤ 1000000000) (hbase : base ≤ w.heap.size) :
  ∃ v' w', (Builtin.append_ #[29, 29] ty #[v, .slice ao m c]).run Tryz.prog w = .ok v' w' ∧ w'.ownsRow base 5 1 v' (n + m) (bc (xs ++ ys)) ∧ w.grownBy w' v.ownBlock ∧ Wh w v v' n m := by
 obtain ⟨i0, hi, hz0, hz1, hz2⟩ := info_parts Tryz.info5
 cases ao with
 | none =>
  obtain ⟨rfl, rfl⟩ := rd_noneK hr rfl
  have hys : ys = [] := List.eq_nil_of_length_eq_zero hr.len
  subst hys
  exact ⟨v, w, run_append_owned_none w base 29 ty 5 i0 1 Tryz.underlying29 hi _ n (bc xs) hown, by simpa using hown, World.grownBy.refl _ _, .inr (.inl ⟨rfl, rfl⟩)⟩
 | some ad =>
  obtain ⟨v', w', hrun, h2, h3, _⟩ := run_append_own (P := Tryz.prog) w base 29 ty 5 i0 (.int .u8 0) 1 1 Tryz.underlying29 hi hz0 hz1 hz2 rfl (by decide) v n (bc xs) hown ad m c (bc ys) (by rw [bc_len, hr.len]; omega) (hr.news rfl) (bc_one ys) (by unfold maxLen; omega) (by omega) hbase
  have hw := bytes_where hown hr hb hrun
  rw [← bc_append] at h2
  exact ⟨v', w', hrun, h2, h3, hw⟩
set_option maxRecDepth 100000 in
theorem row_where {w : World} {base : Nat} {v : Value} {n : Nat} {vs : List Value} (hown : w.ownsRow base 29 1 v n vs) {ad : Addr} {u : Value} (hc : ∀ j x, [u][j]? = some x → w.cell? (ad.add j) = some x) (h1 : ∀ x ∈ [u], x.oneCell' = true) (hb : n + 1 ≤ 1000000000) {ty : TypeId} {v' : Value} {w' : World}
  (hrun : (Builtin.append_ #[30, 30] ty #[v, .slice (some ad) 1 1]).run Tryz.prog w = .ok v' w') : Wh w v v' n 1 := by
 obtain ⟨i0, hi, hz0, hz1, hz2⟩ := info_parts ow_info
 have hl : [u].length = 1 * i0.size := by rw [hz1]; rfl
 rcases hown.2 with ⟨rfl, rfl⟩ | ⟨g, cap, cur, rfl, hbg, hg, hnc, hcm, hcs, htake⟩
 ·right; right
  have hr2 := run_append_nil (P := Tryz.prog) w 30 ty 29 i0 (.slice none 0 0) Tryz.underlying30 hi hz0 ad 1 1 [u] hl hc (by omega) (by omega) (by rw [hz2]; omega)
  rw [hr2] at hrun
  injection hrun with e _
  rw [← e]; rfl
 ·by_cases hroom : n + 1 ≤ cap
  ·left
   have hr2 := run_append_room (P := Tryz.prog) w 30 ty 29 i0 Tryz.underlying30 hi g n cap cur hg ad 1 1 [u] hl hc h1 hroom (by rw [hl, hcs, hz1]; omega)
   rw [hr2] at hrun
   injection hrun with e _
   exact ⟨g, cap, rfl, e.symm⟩
  ·right; right
   have hr2 := run_append_grow (P := Tryz.prog) w 30 ty 29 i0 (.slice none 0 0) Tryz.underlying30 hi hz0 ⟨g, 0, none⟩ n cap vs (by rw [hown.1, hz1]) (hown.cells (g := g) rfl) ad 1 1 [u] hl hc (by omega) (by omega) (growslice_fits (by omega) (by rw [hz2]; omega))
   rw [hr2] at hrun
   injection hrun with e _
   rw [← e]; rfl
theorem run_row {w : World} {v : Value} {n : Nat} {vs : List Value} (ty : TypeId) (hown : w.ownsRow 0 29 1 v n vs) {s : Nat} {u : Value} (hs : w.heap[s]? = some (.cells #[u] 29 (0, 0))) (h1 : u.oneCell' = true) (hb : n + 1 ≤ 1000000000) :
  ∃ g cap w', (Builtin.append_ #[30, 30] ty #[v, .slice (some ⟨s, 0, none⟩) 1 1]).run Tryz.prog w = .ok (.slice (some ⟨g, 0, none⟩) (n + 1) cap) w' ∧ w'.ownsRow 0 29 1 (.slice (some ⟨g, 0, none⟩) (n + 1) cap) (n + 1) (vs ++ [u]) ∧ Keep (fun k => v.ownBlock = some k) w w' ∧ (v.ownBlock = some g ∨ w.heap.size ≤ g) := by
 obtain ⟨i0, hi, hz0, hz1, hz2⟩ := info_parts ow_info
 have hc : ∀ j x, [u][j]? = some x → w.cell? ((⟨s, 0, none⟩ : Addr).add j) = some x := by
  intro j x hx
  match j, hx with
  | 0, hx => simp at hx; subst hx; rw [add_flat]; simp [World.cell?, hs]
  | j + 1, hx => simp at hx
 have h1' : ∀ x ∈ [u], x.oneCell' = true := by intro x hx; simp at hx; rw [hx]; exact h1
 obtain ⟨v', w', hrun, h2, h3, _⟩ := run_append_own (P := Tryz.prog) w 0 30 ty 29 i0 (.slice none 0 0) 1 24 Tryz.underlying30 hi hz0 hz1 hz2 rfl (by decide) v n vs hown ⟨s, 0, none⟩ 1 1 [u] rfl hc h1' (by unfold maxLen; omega) (by omega) (Nat.zero_le _)
 have hw := (row_where hown hc h1' hb hrun).blk
 rcases h2.2 with ⟨_, h0⟩ | ⟨g, cap, cur, rfl, _⟩
 ·omega
 ·exact ⟨g, cap, w', hrun, h2, Keep.ofGrown h3, hw g rfl⟩
theorem run_app_op' {w w' : World} {o : Oper} {a : Act} {s x : Operand} {t : TypeId} {v u v' : Value} (ho : o.op = .call { callee := .builtin .append, args := #[s, x], argTypes := #[t, t] }) (hs : a.eval s = v) (hx : a.eval x = u)
  (hrun : (Builtin.append_ #[t, t] o.type #[v, u]).run Tryz.prog w = .ok v' w') : (execOp a.eval o).run Tryz.prog w = .ok (.value v') w' := by
 simp only [execOp, ho, resolve, invoke, builtin, Sem.run_bind, Sem.run_pure, Result.andThen_ok, List.map_toArray, List.map_cons, List.map_nil, hs, hx, hrun]
theorem wp_row {w : World} {ops : Array Oper} {rest : List Oper} {o : Oper} {a : Act} {Q : Exit → Act → World → Prop} (hgd : o.guard = none) (s x : Operand)
  (ho : o.op = .call { callee := .builtin .append, args := #[s, x], argTypes := #[30, 30] })
  (v : Value) (n : Nat) (vs : List Value) (hs : a.eval s = v) (hown : w.ownsRow 0 29 1 v n vs) (u : Value) (hx : a.eval x = .slice (some ⟨w.heap.size, 0, none⟩) 1 1) (h1 : u.oneCell' = true) (hb : n + 1 ≤ 1000000000)
  (h : ∀ g cap w', w'.ownsRow 0 29 1 (.slice (some ⟨g, 0, none⟩) (n + 1) cap) (n + 1) (vs ++ [u]) → Keep (fun k => v.ownBlock = some k) w w' → (v.ownBlock = some g ∨ w.heap.size ≤ g) → wpList Tryz.prog ops Q rest (a.put o.dst (.slice (some ⟨g, 0, none⟩) (n + 1) cap)) w') : wpList Tryz.prog ops Q (o :: rest) a (w.alloc (.cells #[u] 29)) := by
 refine wpList_plain hgd fun K hK => ?_
 obtain ⟨g, cap, w', hrun, h2, h3, h4⟩ := run_row (w := w.alloc (.cells #[u] 29)) o.type (hown.alloc _) (heap_alloc_new _ _) h1 hb
 unfold Oper.wp
 rw [run_app_op' ho hs hx hrun]
 exact hK _ _ (h g cap w' h2 (((Keep.refl _ w).alloc _).trans h3) (h4.imp id (fun h => by simp at h; omega)))
structure Two (w : World) (fv wv : Value) (fs ws : List Value) (xs ys : List (List Int)) : Prop where
 f : Half w fv fs xs
 g : Half w wv ws ys
 apart : ∀ k, HF fv fs k → ¬ HF wv ws k
 nodup : (blks fs).Nodup
def TF (fv wv : Value) (fs ws : List Value) (k : Nat) : Prop := HF fv fs k ∨ HF wv ws k
theorem Two.keep {S : Nat → Prop} {w w' : World} {fv wv : Value} {fs ws : List Value} {xs ys : List (List Int)} (h : Two w fv wv fs ws xs ys) (hk : Keep S w w') (hs : ∀ k, TF fv wv fs ws k → ¬ S k) : Two w' fv wv fs ws xs ys :=
 ⟨h.f.keep hk (fun k e => hs k (.inl e)), h.g.keep hk (fun k e => hs k (.inr e)), h.apart, h.nodup⟩
theorem Two.lt {w : World} {fv wv : Value} {fs ws : List Value} {xs ys : List (List Int)} (h : Two w fv wv fs ws xs ys) : ∀ k, TF fv wv fs ws k → k < w.heap.size := fun k e => e.elim (h.f.lt k) (h.g.lt k)
theorem Two.not {w : World} {fv wv : Value} {fs ws : List Value} {xs ys : List (List Int)} (h : Two w fv wv fs ws xs ys) {p : Nat} {cs : Array Value} {t : TypeId} {q : Nat × Nat} (hp : w.heap[p]? = some (.cells cs t q)) (h1 : t ≠ 29) (h2 : t ≠ 5) : ¬ TF fv wv fs ws p :=
 fun e => e.elim (h.f.not hp h1 h2) (h.g.not hp h1 h2)
theorem Two.nil (w : World) : Two w (.slice none 0 0) (.slice none 0 0) [] [] [] [] := ⟨Half.nil _, Half.nil _, (fun k e => by rcases e with e | e <;> cases e), List.nodup_nil⟩
theorem HF.snoc {fv fv' : Value} {fs : List Value} {u : Value} {B : Nat} (hw : ∀ k, fv'.ownBlock = some k → fv.ownBlock = some k ∨ B ≤ k) : ∀ k, HF fv' (fs ++ [u]) k → HF fv fs k ∨ u.ownBlock = some k ∨ B ≤ k := by
 rintro k (e | e)
 ·exact (hw k e).elim (fun e => .inl (.inl e)) (fun e => .inr (.inr e))
 ·exact ((blks_snoc _ _ _).1 e).elim (fun e => .inl (.inr e)) (fun e => .inr (.inl e))
theorem Two.addF {w w' : World} {fv wv fv' : Value} {fs ws : List Value} {xs ys : List (List Int)} {u : Value} {x : List Int} (h : Two w fv wv fs ws xs ys) (hu : Ow w u x) (hun : ∀ k, u.ownBlock = some k → ¬ TF fv wv fs ws k)
  (hr : w'.ownsRow 0 29 1 fv' (fs.length + 1) (fs ++ [u])) (hk : Keep (fun k => fv.ownBlock = some k) w w') (hw : ∀ k, fv'.ownBlock = some k → fv.ownBlock = some k ∨ w.heap.size ≤ k) : Two w' fv' wv (fs ++ [u]) ws (xs ++ [x]) ys := by
 refine ⟨h.f.snoc hu hr hk, h.g.keep hk (fun k e e2 => h.apart k (.inl e2) e), fun k e e2 => ?_, ?_⟩
 ·rcases HF.snoc hw k e with e | e | e
  ·exact h.apart k e e2
  ·exact hun k e (.inr e2)
  ·exact absurd (h.g.lt k e2) (by omega)
 ·rw [blks_append]
  refine List.nodup_append.2 ⟨h.nodup, ?_, fun k hk1 j hk2 e => ?_⟩
  ·unfold blks
   cases hb : u.ownBlock with
   | none => rw [List.filterMap_cons_none hb]; exact List.nodup_nil
   | some k => rw [List.filterMap_cons_some hb]; simp
  ·subst e
   obtain ⟨u', hu', hb⟩ := mem_blks.1 hk2
   simp at hu'
   subst hu'
   exact hun k hb (.inl (.inr hk1))
theorem Two.addG {w w' : World} {fv wv wv' : Value} {fs ws : List Value} {xs ys : List (List Int)} {u : Value} {x : List Int} (h : Two w fv wv fs ws xs ys) (hu : Ow w u x) (hun : ∀ k, u.ownBlock = some k → ¬ HF fv fs k)
  (hr : w'.ownsRow 0 29 1 wv' (ws.length + 1) (ws ++ [u])) (hk : Keep (fun k => wv.ownBlock = some k) w w') (hw : ∀ k, wv'.ownBlock = some k → wv.ownBlock = some k ∨ w.heap.size ≤ k) : Two w' fv wv' fs (ws ++ [u]) xs (ys ++ [x]) := by
 refine ⟨h.f.keep hk (fun k e e2 => h.apart k e (.inl e2)), h.g.snoc hu hr hk, fun k e e2 => ?_, h.nodup⟩
 rcases HF.snoc hw k e2 with e2 | e2 | e2
 ·exact h.apart k e e2
 ·exact hun k e2 e
 ·exact absurd (h.f.lt k e) (by omega)
end Go.Proofs.YtikkieaokfailaaGreatDoor

namespace Go.Proofs.YtikkieaokfailaaGreatDoor
open Go.RowKit
section
variable {P : Program} {ops : Array Oper} {Q : Exit → Act → World → Prop} {S : World → Prop}
structure PX (P : Program) (ops : Array Oper) (Q : Exit → Act → World → Prop) (S : World → Prop) (fuel : Nat) (listed : Array Bool) (a : Act) (w : World) : Prop where
 out : wpAnyH P .any ops Q S fuel listed a w
def stepP (P : Program) (ops : Array Oper) (Q : Exit → Act → World → Prop) (S : World → Prop) (i : Nat) (K : Act → World → Prop) (a : Act) (w : World) : Prop :=
 wpOp P ops Q i (fun a' w' => S w' ∧ K a' w') a w
theorem wp_region_px {id : Nat} {a : Act} {w : World} (S : World → Prop) (n : Nat) (hm : P.follows .mixedOrders = true) (hn : ops.size = n) (h : PX P ops Q S n (Array.replicate n false) a w.drew) : (Code.region id ops true).wp P Q a w := by
 subst hn
 exact wp_region_held hm (S := S) h.out
theorem px_nil {fuel : Nat} {listed : Array Bool} {a : Act} {w : World} (hr : (Region.ready .any ops listed).isEmpty = true) (h : Q .normal a w) : PX P ops Q S fuel listed a w :=
 ⟨wpAnyH_done (by simpa using hr) h fuel⟩
theorem px_rd {fuel : Nat} {listed : Array Bool} {tm : Array Value} {df : List Deferred} {w : World} {o : Oper} {d : Tmp} (i : Nat) (v : Value) (hs : Region.noSelect ops = true) (hQ : ∀ c (a : Act) d v w, Q (.panic c) (a.put d v) w → Q (.panic c) a w) (hr : ((Region.ready .any ops listed).contains i && Region.free .any ops listed i) = true)
  (hS : S w) (ho : ops[i]? = some o) (hd : o.dst = some d) (hw : Region.wanted o (yielded ops tm) = true)
  (hv : ∀ w', S w' → (execOp (Act.eval { tmps := tm, defers := df }) o).run P w' = .ok (.value v) w') (h : PX P ops Q S fuel (listed.setIfInBounds i true) { tmps := tm.setIfInBounds d v, defers := df } w) : PX P ops Q S (fuel + 1) listed { tmps := tm, defers := df } w := by
 rw [Bool.and_eq_true] at hr
 refine ⟨wpAnyH_take ho hs hr.2 hr.1 (fun c a w => hQ c a o.dst v w) (Or.inl ⟨hw, hv⟩) hS ?_⟩
 have := h.out
 rw [hd, put_some]; exact this
theorem px_one {fuel : Nat} {listed : Array Bool} {a : Act} {w : World} (i : Nat) (hr : (Region.ready .any ops listed == [i]) = true) (h : stepP P ops Q S i (PX P ops Q S fuel (listed.setIfInBounds i true)) a w) : PX P ops Q S (fuel + 1) listed a w := by
 refine ⟨wpAnyH_all (rs := [i]) (by simpa using hr) (by simp) fun j hj => ?_⟩
 have hj' : j = i := by simpa using hj
 subst hj'
 exact wpOp_mono (fun a' w' k => ⟨k.1, k.2.out⟩) h
theorem px_two {fuel : Nat} {listed : Array Bool} {a : Act} {w : World} (i j : Nat) (hr : (Region.ready .any ops listed == [i, j]) = true) (h1 : stepP P ops Q S i (PX P ops Q S fuel (listed.setIfInBounds i true)) a w) (h2 : stepP P ops Q S j (PX P ops Q S fuel (listed.setIfInBounds j true)) a w) : PX P ops Q S (fuel + 1) listed a w := by
 refine ⟨wpAnyH_all (rs := [i, j]) (by simpa using hr) (by simp) fun k hk => ?_⟩
 by_cases hki : k = i
 ·subst hki
  exact wpOp_mono (fun a' w' k => ⟨k.1, k.2.out⟩) h1
 ·have hkj : k = j := by simpa [hki] using hk
  subst hkj
  exact wpOp_mono (fun a' w' k => ⟨k.1, k.2.out⟩) h2
theorem stepP_val {i : Nat} {K : Act → World → Prop} {tm : Array Value} {df : List Deferred} {w w' : World} {o : Oper} {d : Tmp} (v : Value) (ho : ops[i]? = some o) (hd : o.dst = some d) (hw : Region.wanted o (yielded ops tm) = true)
  (hrun : (execOp (Act.eval { tmps := tm, defers := df }) o).run P w = .ok (.value v) w') (hS : S w') (h : K { tmps := tm.setIfInBounds d v, defers := df } w') : stepP P ops Q S i K { tmps := tm, defers := df } w := by
 unfold stepP wpOp
 rw [ho]
 simp only
 rw [if_pos hw]
 refine .inl ?_
 unfold Oper.wp
 rw [hrun]
 show S w' ∧ K (Act.put { tmps := tm, defers := df } o.dst v) w'
 rw [hd, put_some]
 exact ⟨hS, h⟩
end
end Go.Proofs.YtikkieaokfailaaGreatDoor

namespace Go.Proofs.YtikkieaokfailaaGreatDoor
open Go.RowKit
def marks5 : List Int := [77, 78, 79, 80, 81]
theorem marks5_bd : Bd marks5 := by intro x hx; simp [marks5] at hx; omega
theorem rd_five (w : World) : Rd (w.alloc (.cells #[.int .u8 77, .int .u8 78, .int .u8 79, .int .u8 80, .int .u8 81] 5)) (some ⟨w.heap.size, 0, none⟩) 5 5 marks5 := by
 refine ⟨rfl, Nat.le_refl _, by unfold maxLen; omega, (fun h => by cases h), marks5_bd, fun ad had j hj => ?_⟩
 cases had
 rw [add_flat]
 match j, hj with
 | 0, _ => simp [marks5]
 | 1, _ => simp [marks5]
 | 2, _ => simp [marks5]
 | 3, _ => simp [marks5]
 | 4, _ => simp [marks5]
theorem own_cap {W : World} {lo n m sz g cap : Nat} {e : TypeId} {xs : List Value} (h : W.ownsRow lo e sz (.slice (some ⟨g, 0, none⟩) m cap) n xs) : n ≤ cap := by
 rcases h.2 with ⟨hv, _⟩ | ⟨g, cap', cur, hv, _, _, hc, _⟩
 ·cases hv
 ·cases hv; exact hc
def LCO (W : World) (p : Nat) (fv wv : Value) : Prop := W.heap[p]? = some (.cells #[fv, wv] 73 (0, 0))
theorem LCO.lt {W : World} {p : Nat} {fv wv : Value} (h : LCO W p fv wv) : p < W.heap.size := (Array.getElem?_eq_some_iff.1 (show W.heap[p]? = _ from h)).1
theorem LCO.c0 {W : World} {p : Nat} {fv wv : Value} (h : LCO W p fv wv) : W.cell? ⟨p, 0, none⟩ = some fv := by simp [World.cell?, show W.heap[p]? = _ from h]
theorem LCO.c1 {W : World} {p : Nat} {fv wv : Value} (h : LCO W p fv wv) : W.cell? ⟨p, 1, none⟩ = some wv := by simp [World.cell?, show W.heap[p]? = _ from h]
theorem LCO.fz {W : World} {p : Nat} {fv wv : Value} (h : LCO W p fv wv) (j : Nat) : W.frozen? ⟨p, j, none⟩ = false := by simp [World.frozen?, show W.heap[p]? = _ from h]
theorem LCO.set0 {W : World} {p : Nat} {fv wv : Value} (h : LCO W p fv wv) (u : Value) : LCO (W.setCell ⟨p, 0, none⟩ u) p u wv := by
 have h' : W.heap[p]? = _ := h
 show (W.setCell ⟨p, 0, none⟩ u).heap[p]? = _
 simp [World.setCell, Array.getElem?_modify, h']
theorem LCO.set1 {W : World} {p : Nat} {fv wv : Value} (h : LCO W p fv wv) (u : Value) : LCO (W.setCell ⟨p, 1, none⟩ u) p fv u := by
 have h' : W.heap[p]? = _ := h
 show (W.setCell ⟨p, 1, none⟩ u).heap[p]? = _
 simp [World.setCell, Array.getElem?_modify, h']
theorem LCO.keep {S : Nat → Prop} {W W' : World} {p : Nat} {fv wv : Value} (h : LCO W p fv wv) (hk : Keep S W W') (hs : ¬ S p) : LCO W' p fv wv := (hk.block p h.lt hs).trans h
structure LoanAt (w : World) (p : Nat) (fv wv : Value) (fs ws : List Value) (xs : List (List Int)) : Prop where
 cell : LCO w p fv wv
 two : Two w fv wv fs ws xs xs
def LF (p : Nat) (fv wv : Value) (fs ws : List Value) (k : Nat) : Prop := k = p ∨ TF fv wv fs ws k
theorem LoanAt.not {w : World} {p : Nat} {fv wv : Value} {fs ws : List Value} {xs ys : List (List Int)} (hc : LCO w p fv wv) {fv' wv' : Value} (h : Two w fv' wv' fs ws xs ys) : ¬ TF fv' wv' fs ws p := h.not hc (by decide) (by decide)
theorem LoanAt.keep {S : Nat → Prop} {w w' : World} {p : Nat} {fv wv : Value} {fs ws : List Value} {xs : List (List Int)} (h : LoanAt w p fv wv fs ws xs) (hk : Keep S w w') (hs : ∀ k, LF p fv wv fs ws k → ¬ S k) : LoanAt w' p fv wv fs ws xs :=
 ⟨h.cell.keep hk (hs p (.inl rfl)), h.two.keep hk (fun k e => hs k (.inr e))⟩
theorem LoanAt.lt {w : World} {p : Nat} {fv wv : Value} {fs ws : List Value} {xs : List (List Int)} (h : LoanAt w p fv wv fs ws xs) : ∀ k, LF p fv wv fs ws k → k < w.heap.size := by
 rintro k (rfl | e)
 ·exact h.cell.lt
 ·exact h.two.lt k e
theorem LoanAt.new (w : World) : LoanAt (w.alloc (.cells #[.slice none 0 0, .slice none 0 0] 73)) w.heap.size (.slice none 0 0) (.slice none 0 0) [] [] [] := ⟨heap_alloc_new w _, Two.nil _⟩
section
variable {P : Program} {ops : Array Oper} {Q : Exit → Act → World → Prop} {S : World → Prop}
theorem px_via {fuel : Nat} {listed : Array Bool} {a : Act} {w : World} (fuel' : Nat) (listed' : Array Bool) (a' : Act) (w' : World) (H : PX P ops Q S fuel' listed' a' w' → PX P ops Q S fuel listed a w) (h : PX P ops Q S fuel' listed' a' w') : PX P ops Q S fuel listed a w := H h
theorem stepP_skip {i : Nat} {K : Act → World → Prop} {a : Act} {w w' : World} {o : Oper} (ho : ops[i]? = some o) (hd : o.dst = none) (hw : Region.wanted o (yielded ops a.tmps) = true)
  (hrun : (execOp a.eval o).run P w = .ok .skip w') (hS : S w') (h : K a w') : stepP P ops Q S i K a w := by
 unfold stepP wpOp
 rw [ho]
 simp only
 rw [if_pos hw]
 refine .inl ?_
 unfold Oper.wp
 rw [hrun, Oper.upon_skip, hd]
 exact ⟨hS, h⟩
end
set_option maxHeartbeats 1600000 in
theorem loanBytes_any (p : Nat) (fv wv : Value) (fs ws : List Value) (xs : List (List Int)) (a : Option Addr) (n c : Nat) (ys : List Int) (w : World) (hL : LoanAt w p fv wv fs ws xs) (hR : Rd w a n c ys) (hn : n ≤ 1000000) (hf : fs.length ≤ 1000000) (hw : ws.length ≤ 1000000) :
  Calls Tryz.prog 31 #[.pointer (some ⟨p, 0, none⟩), .slice a n c] w fun e w' => ∃ g cap fv' wv' wl, e = .returned (.slice (some ⟨g, 0, none⟩) n cap) ∧ LoanAt w' p fv' wv' (fs ++ [.slice (some ⟨g, 0, none⟩) (n + 5) cap]) (ws ++ [wl]) (xs ++ [ys ++ marks5]) ∧ Rd w' (some ⟨g, 0, none⟩) n cap ys ∧ w.heap.size ≤ g ∧
   (∀ k, LF p fv' wv' (fs ++ [.slice (some ⟨g, 0, none⟩) (n + 5) cap]) (ws ++ [wl]) k → LF p fv wv fs ws k ∨ w.heap.size ≤ k) ∧ Keep (LF p fv wv fs ws) w w' := by
 obtain ⟨hC, hT⟩ := hL
 obtain ⟨af, cf, rfl⟩ := own_slO hT.f.row
 obtain ⟨aw, cw, rfl⟩ := own_slO hT.g.row
 have hyl := hR.len
 have t1 : True := trivial
 have t2 : True := trivial
 go_enter Tryz.func31, Tryz.ntmps31
 go_upto_region 3 with (first
  | (at_builtin; clear t1; refine wp_app0K rfl _ _ rfl rfl a n c ys rfl hR (by omega) ?_; intro v1 w1 hown1 hb1 hv1; obtain ⟨g1, cap1, rfl⟩ := hv1)
  | (at_builtin; clear t2; refine wp_appK rfl _ _ rfl w.heap.size _ n ys rfl (hown1.alloc _) _ 5 5 _ rfl (rd_five w1) (by omega) (by have := hb1.size; simp; omega) ?_; intro v2 w2 hown2 hgr2 _; have hb2 : Below w.heap.size w w2 := (hb1.alloc hb1.size _).grown hgr2 (by have := hb1.size; simp; omega) (fun k e => (hown1.lt k e).1); obtain ⟨g2, cap2, rfl⟩ := ownsRow_succ (k := n + 4) hown2; have hC2 : LCO w2 p _ _ := (hb2.block p hC.lt).trans hC; have hx0 := hC2.c0; have hT2 := hT.keep (S := fun _ => False) (Keep.ofBelow hb2) (fun _ _ h => h))
  | (at_builtin; refine wp_row rfl _ _ rfl _ _ fs rfl hT2.f.row (.slice (some ⟨g2, 0, none⟩) (n + 5) cap2) rfl rfl (by omega) ?_; intro g3 cap3 w3 hown3 hk3 hp3; have hC3 : LCO w3 p _ _ := hC2.keep hk3 (fun e => (LoanAt.not hC2 hT2) (.inl (.inl e))); have hx1 := hC3.c0; have hx2 := hC3.fz 0))
 have hC2' : LCO w2 p (.slice af fs.length cf) (.slice aw ws.length cw) := hC2
 have hk3' : Keep (fun k => (Value.slice af fs.length cf).ownBlock = some k) w2 w3 := hk3
 have hp3' : (Value.slice af fs.length cf).ownBlock = some g3 ∨ w2.heap.size ≤ g3 := hp3
 have hu2 : Ow w2 (.slice (some ⟨g2, 0, none⟩) (n + 5) cap2) (ys ++ marks5) := Ow.ofFrom hown2 (hR.bytes.append marks5_bd)
 have hg2 : w.heap.size ≤ g2 := (hown2.lt g2 rfl).1
 clear hk3 hp3 hgr2 hx0 hx1 hx2 hown1 hb1 hC2
 have hs2 := hb2.size
 have hT3 := hT2.addF hu2 (fun k e e2 => absurd (hT.lt k e2) (by have e' : g2 = k := Option.some.inj e; omega)) hown3 hk3' (fun k e => by cases e; exact hp3')
 have hC4 := hC3.set0 (.slice (some ⟨g3, 0, none⟩) (fs.length + 1) cap3)
 have hkp : Keep (fun k => k = p) w3 (w3.setCell ⟨p, 0, none⟩ (.slice (some ⟨g3, 0, none⟩) (fs.length + 1) cap3)) := Keep.setCell (S := fun k => k = p) (Keep.refl _ _) rfl _
 have hT4 := hT3.keep hkp (fun k e h => LoanAt.not hC3 hT3 (by rw [← h]; exact e))
 have hK4 : Keep (LF p (.slice af fs.length cf) (.slice aw ws.length cw) fs ws) w (w3.setCell ⟨p, 0, none⟩ (.slice (some ⟨g3, 0, none⟩) (fs.length + 1) cap3)) := ((Keep.ofBelow hb2).andThen hk3' (fun i _ e => .inr (.inl (.inl e)))).andThen hkp (fun i _ e => .inl e)
 have hu4 := hT4.f.ows
 generalize (w3.setCell ⟨p, 0, none⟩ (.slice (some ⟨g3, 0, none⟩) (fs.length + 1) cap3)) = w4 at hC4 hT4 hK4 hu4 ⊢
 have hCB : LCO w4.drew p (.slice (some ⟨g3, 0, none⟩) (fs.length + 1) cap3) (.slice aw ws.length cw) := hC4
 have hTB := hT4.keep (S := fun _ => False) (Keep.refl _ w4).drew (fun _ _ h => h)
 have hKB := hK4.drew
 refine wp_region_px (fun _ => True) 13 (by kernel_rfl) (by kernel_rfl) ?_
 generalize w4.drew = WB at hCB hTB hKB
 have hgl : (fs ++ [.slice (some ⟨g2, 0, none⟩) (n + 5) cap2])[fs.length]? = some (.slice (some ⟨g2, 0, none⟩) (n + 5) cap2) := by simp
 have huB := hTB.f.ows.get hgl
 have hxB : (xs ++ [ys ++ marks5]).getD fs.length [] = ys ++ marks5 := by rw [hT.f.ows.len]; simp [List.getD]
 rw [hxB] at huB
 have hl5 : (ys ++ marks5).length = n + 5 := by rw [List.length_append, hyl]; rfl
 have hoB := huB.own
 rw [hl5] at hoB
 obtain ⟨_, _, hv, hrB⟩ := Rd.ofOwn hoB huB.bd
 cases hv
 have hC5 : LCO (WB.alloc (.cells #[] 5)) p _ _ := (Below.heap_alloc _ _ _ hCB.lt).trans hCB
 have hT5 := hTB.keep (S := fun _ => False) ((Keep.refl _ WB).alloc (.cells #[] 5)) (fun _ _ h => h)
 have hr5 := hrB.keep (S := fun _ => False) ((Keep.refl _ WB).alloc (.cells #[] 5)) (fun _ _ h => h)
 have ho5 : (WB.alloc (.cells #[] 5)).ownsRow WB.heap.size 5 1 (.slice (some ⟨WB.heap.size, 0, none⟩) 0 0) 0 (bc []) := World.ownsRow_made WB #[] 0 (Nat.le_refl _) (by unfold maxLen; omega) rfl
 obtain ⟨W5, HW5⟩ : ∃ W5, Hid (W5 = WB.alloc (.cells #[] 5)) := ⟨_, rfl⟩
 have hK5 := hKB.alloc (.cells #[] 5)
 have hs5 : W5.heap.size = WB.heap.size + 1 := by rw [HW5.out]; simp
 rw [← HW5.out] at hC5 hT5 hr5 ho5 hK5
 obtain ⟨v7, W7, hrun7, ho7, hg7, hw7⟩ := run_bytes 29 ho5 hr5 (by omega) (by omega)
 rw [List.nil_append, Nat.zero_add] at ho7
 have hk7 := Keep.ofGrown hg7
 have hnew7 : ∀ k, (Value.slice (some ⟨WB.heap.size, 0, none⟩) 0 0).ownBlock = some k → k = WB.heap.size := fun k e => by cases e; rfl
 have hC7 := hC5.keep hk7 (fun e => by have := hnew7 p e; have := hCB.lt; omega)
 have hT7 := hT5.keep hk7 (fun k e e2 => by have := hnew7 k e2; have := hTB.lt k e; omega)
 have hu7 : Ow W7 v7 (ys ++ marks5) := Ow.ofFrom ho7 (hR.bytes.append marks5_bd)
 have hlo7 : ∀ k, v7.ownBlock = some k → WB.heap.size ≤ k := fun k e => (ho7.lt k e).1
 obtain ⟨a7, c7, hv7⟩ := own_slO ho7
 subst hv7
 have hK7 : Keep (LF p (.slice af fs.length cf) (.slice aw ws.length cw) fs ws) w W7 := hK5.andThen hk7 (fun i hi e => by have := hnew7 i e; have := hKB.size; omega)
 have hs7 := hk7.size
 obtain ⟨W8, HW8⟩ : ∃ W8, Hid (W8 = W7.alloc (.cells #[.slice a7 (n + 5) c7] 29)) := ⟨_, rfl⟩
 have hC8 : LCO W8 p (.slice (some ⟨g3, 0, none⟩) (fs.length + 1) cap3) (.slice aw ws.length cw) := by rw [HW8.out]; exact (Below.heap_alloc _ _ _ hC7.lt).trans hC7
 have hT8 := hT7.keep (S := fun _ => False) ((Keep.refl _ W7).alloc (.cells #[.slice a7 (n + 5) c7] 29)) (fun _ _ h => h)
 have hu8 := hu7.keep (S := fun _ => False) ((Keep.refl _ W7).alloc (.cells #[.slice a7 (n + 5) c7] 29)) (fun _ _ h => h)
 have hK8 := hK7.alloc (.cells #[.slice a7 (n + 5) c7] 29)
 have hb8 : W8.heap[W7.heap.size]? = some (.cells #[.slice a7 (n + 5) c7] 29 (0, 0)) := by rw [HW8.out]; exact heap_alloc_new _ _
 have hs8 : W8.heap.size = W7.heap.size + 1 := by rw [HW8.out]; simp
 rw [← HW8.out] at hT8 hu8 hK8
 obtain ⟨g9, cap9, W9, hrun9, ho9, hk9, hp9⟩ := run_row (w := W8) 30 hT8.g.row hb8 rfl (by omega)
 have hC9 := hC8.keep hk9 (fun e => LoanAt.not hC8 hT8 (.inr (.inl e)))
 have hT9 := hT8.addG hu8 (fun k e e2 => by have := hlo7 k e; have := hTB.f.lt k e2; omega) ho9 hk9 (fun k e => by cases e; exact hp9)
 have hx1 := hC9.c1
 have hx2 := hC9.fz 1
 have hkE : Keep (fun k => k = p) W9 (W9.setCell ⟨p, 1, none⟩ (.slice (some ⟨g9, 0, none⟩) (ws.length + 1) cap9)) := Keep.setCell (S := fun k => k = p) (Keep.refl _ _) rfl _
 have hCE := hC9.set1 (.slice (some ⟨g9, 0, none⟩) (ws.length + 1) cap9)
 have hTE := hT9.keep hkE (fun k e h => LoanAt.not hC9 hT9 (by rw [← h]; exact e))
 have hKE : Keep (LF p (.slice af fs.length cf) (.slice aw ws.length cw) fs ws) w (W9.setCell ⟨p, 1, none⟩ (.slice (some ⟨g9, 0, none⟩) (ws.length + 1) cap9)) := (hK8.andThen hk9 (fun i hi e => .inr (.inr (.inl e)))).andThen hkE (fun i _ e => .inl e)
 refine px_rd 0 ?v0 (by kernel_rfl) (fun _ _ d _ _ h => by cases d <;> exact h) (by kernel_rfl) trivial rfl rfl rfl (fun w' _ => ?h0) ?_
 case h0 => first | (go_simp; rfl) | go_simp
 simp only [lxa, lxb, lxc]
 refine px_rd 1 ?v1 (by kernel_rfl) (fun _ _ d _ _ h => by cases d <;> exact h) (by kernel_rfl) trivial rfl rfl rfl (fun w' _ => ?h1) ?_
 case h1 => first | (go_simp; rfl) | go_simp
 simp only [lxa, lxb, lxc]
 refine px_rd 2 ?v2 (by kernel_rfl) (fun _ _ d _ _ h => by cases d <;> exact h) (by kernel_rfl) trivial rfl rfl rfl (fun w' _ => ?h2) ?_
 case h2 => first | (go_simp; rfl) | go_simp
 simp only [lxa, lxb, lxc]
 refine px_rd 3 ?v3 (by kernel_rfl) (fun _ _ d _ _ h => by cases d <;> exact h) (by kernel_rfl) trivial rfl rfl rfl (fun w' _ => ?h3) ?_
 case h3 => first | (go_simp; rfl) | go_simp
 simp only [lxa, lxb, lxc]
 refine px_rd 6 ?v6 (by kernel_rfl) (fun _ _ d _ _ h => by cases d <;> exact h) (by kernel_rfl) trivial rfl rfl rfl (fun w' _ => ?h6) ?_
 case h6 => first | (go_simp; rfl) | go_simp
 simp only [lxa, lxb, lxc]
 refine px_via 4 ?ll ?aa W8 (fun tail => ?br) ?tl
 case br =>
  refine px_two 4 5 (by kernel_rfl) ?pA ?pB
  case pA =>
   refine stepP_val (w' := WB) (.slice aw ws.length cw) rfl rfl rfl ?eA4 trivial ?_
   case eA4 => have hq := hCB.c1; first | (go_simp; rfl) | go_simp
   simp only [lxa, lxb, lxc]
   refine px_one 5 (by kernel_rfl) ?_
   refine stepP_val (w' := W5) (.slice (some ⟨WB.heap.size, 0, none⟩) 0 0) rfl rfl rfl ?eA5 trivial ?_
   case eA5 => first | (rw [HW5.out]; go_simp; rfl) | (rw [HW5.out]; go_simp)
   simp only [lxa, lxb, lxc]
   refine px_one 7 (by kernel_rfl) ?_
   refine stepP_val (w' := W7) (.slice a7 (n + 5) c7) rfl rfl rfl ?eA7 trivial ?_
   case eA7 => exact run_app_op' rfl rfl rfl hrun7
   simp only [lxa, lxb, lxc]
   refine px_one 8 (by kernel_rfl) ?_
   refine stepP_val (w' := W8) (.slice (some ⟨W7.heap.size, 0, none⟩) 1 1) rfl rfl rfl ?eA8 trivial ?_
   case eA8 => first | (rw [HW8.out]; go_simp; rfl) | (rw [HW8.out]; go_simp)
   simp only [lxa, lxb, lxc]
   exact tail
  case pB =>
   refine stepP_val (w' := W5) (.slice (some ⟨WB.heap.size, 0, none⟩) 0 0) rfl rfl rfl ?eB5 trivial ?_
   case eB5 => first | (rw [HW5.out]; go_simp; rfl) | (rw [HW5.out]; go_simp)
   simp only [lxa, lxb, lxc]
   refine px_two 4 7 (by kernel_rfl) ?pC ?pD
   case pC =>
    refine stepP_val (w' := W5) (.slice aw ws.length cw) rfl rfl rfl ?eC4 trivial ?_
    case eC4 => have hq := hC5.c1; first | (go_simp; rfl) | go_simp
    simp only [lxa, lxb, lxc]
    refine px_one 7 (by kernel_rfl) ?_
    refine stepP_val (w' := W7) (.slice a7 (n + 5) c7) rfl rfl rfl ?eC7 trivial ?_
    case eC7 => exact run_app_op' rfl rfl rfl hrun7
    simp only [lxa, lxb, lxc]
    refine px_one 8 (by kernel_rfl) ?_
    refine stepP_val (w' := W8) (.slice (some ⟨W7.heap.size, 0, none⟩) 1 1) rfl rfl rfl ?eC8 trivial ?_
    case eC8 => first | (rw [HW8.out]; go_simp; rfl) | (rw [HW8.out]; go_simp)
    simp only [lxa, lxb, lxc]
    exact tail
   case pD =>
    refine stepP_val (w' := W7) (.slice a7 (n + 5) c7) rfl rfl rfl ?eD7 trivial ?_
    case eD7 => exact run_app_op' rfl rfl rfl hrun7
    simp only [lxa, lxb, lxc]
    refine px_two 4 8 (by kernel_rfl) ?pE ?pF
    case pE =>
     refine stepP_val (w' := W7) (.slice aw ws.length cw) rfl rfl rfl ?eE4 trivial ?_
     case eE4 => have hq := hC7.c1; first | (go_simp; rfl) | go_simp
     simp only [lxa, lxb, lxc]
     refine px_one 8 (by kernel_rfl) ?_
     refine stepP_val (w' := W8) (.slice (some ⟨W7.heap.size, 0, none⟩) 1 1) rfl rfl rfl ?eE8 trivial ?_
     case eE8 => first | (rw [HW8.out]; go_simp; rfl) | (rw [HW8.out]; go_simp)
     simp only [lxa, lxb, lxc]
     exact tail
    case pF =>
     refine stepP_val (w' := W8) (.slice (some ⟨W7.heap.size, 0, none⟩) 1 1) rfl rfl rfl ?eF8 trivial ?_
     case eF8 => first | (rw [HW8.out]; go_simp; rfl) | (rw [HW8.out]; go_simp)
     simp only [lxa, lxb, lxc]
     refine px_one 4 (by kernel_rfl) ?_
     refine stepP_val (w' := W8) (.slice aw ws.length cw) rfl rfl rfl ?eF4 trivial ?_
     case eF4 => have hq := hC8.c1; first | (go_simp; rfl) | go_simp
     simp only [lxa, lxb, lxc]
     exact tail
 case tl =>
  refine px_one 9 (by kernel_rfl) ?_
  refine stepP_val (w' := W9) (.slice (some ⟨g9, 0, none⟩) (ws.length + 1) cap9) rfl rfl rfl ?eT9 trivial ?_
  case eT9 => exact run_app_op' rfl rfl rfl hrun9
  simp only [lxa, lxb, lxc]
  refine px_rd 10 ?v10 (by kernel_rfl) (fun _ _ d _ _ h => by cases d <;> exact h) (by kernel_rfl) trivial rfl rfl rfl (fun w' _ => ?h10) ?_
  case h10 => first | (go_simp; rfl) | go_simp
  simp only [lxa, lxb, lxc]
  refine px_rd 11 ?v11 (by kernel_rfl) (fun _ _ d _ _ h => by cases d <;> exact h) (by kernel_rfl) trivial rfl rfl rfl (fun w' _ => ?h11) ?_
  case h11 => first | (go_simp; rfl) | go_simp
  simp only [lxa, lxb, lxc]
  refine px_one 12 (by kernel_rfl) ?_
  refine stepP_skip (w' := W9.setCell ⟨p, 1, none⟩ (.slice (some ⟨g9, 0, none⟩) (ws.length + 1) cap9)) rfl rfl rfl ?e12 trivial ?_
  case e12 => first | (go_simp; rfl) | go_simp
  refine px_nil (by kernel_rfl) ?_
  have hcap2 := own_cap hown2
  have hcz : (n : Int) ≤ (cap2 : Int) := by omega
  have hcz5 : (n : Int) ≤ (n : Int) + 4 + 1 := by omega
  go_wp2
  go_ret
  have hoE := (hTE.f.ows.get hgl)
  rw [hxB] at hoE
  have hoE' := hoE.own
  rw [hl5] at hoE'
  obtain ⟨_, _, hvE, hrE⟩ := Rd.ofOwn hoE' hoE.bd
  cases hvE
  have hrE' := hrE.takeK (k := n) (by omega)
  rw [List.take_left' hyl] at hrE'
  have hsB := hKB.size
  refine ⟨g2, cap2, _, _, _, rfl, ⟨hCE, hTE⟩, hrE', hg2, ?_, hKE⟩
  rintro k (rfl | e | e)
  ·exact .inl (.inl rfl)
  ·rcases HF.snoc (B := w.heap.size) (fv := .slice af fs.length cf) (fun k e => by have e' : g3 = k := Option.some.inj e; subst e'; exact hp3'.imp id (fun h => by omega)) k e with e | e | e
   ·exact .inl (.inr (.inl e))
   ·exact .inr (by have e' : g2 = k := Option.some.inj e; omega)
   ·exact .inr e
  ·rcases HF.snoc (B := w.heap.size) (fv := .slice aw ws.length cw) (fun k e => by have e' : g9 = k := Option.some.inj e; subst e'; exact hp9.imp id (fun h => by omega)) k e with e | e | e
   ·exact .inl (.inr (.inr e))
   ·exact .inr (by have := hlo7 k e; omega)
   ·exact .inr e
end Go.Proofs.YtikkieaokfailaaGreatDoor

namespace Go.Proofs.YtikkieaokfailaaGreatDoor
open Go.RowKit
theorem mem_of {vs : List Value} {j : Nat} {v : Value} (hj : vs[j]? = some v) {k : Nat} (e : v.ownBlock = some k) : k ∈ blks vs := mem_blks.2 ⟨v, List.mem_of_getElem? hj, e⟩
theorem Ow.stored {w : World} {g n c : Nat} {x : List Int} (h : Ow w (.slice (some ⟨g, 0, none⟩) n c) x) (j : Nat) (y : Int) (h0 : 0 ≤ y) (h1 : y ≤ 255) : Ow (w.setCell ⟨g, j, none⟩ (.int .u8 y)) (.slice (some ⟨g, 0, none⟩) n c) (x.set j y) := by
 have hn : n = x.length := by obtain ⟨a, c', hv, _⟩ := h.rd; cases hv; rfl
 subst hn
 have hs := (h.own.stored j (.int .u8 y)).1
 have e : (bc x).set j (.int .u8 y) = bc (x.set j y) := by unfold bc; rw [List.map_set]
 rw [e] at hs
 refine ⟨by rw [List.length_set]; exact hs, fun z hz => ?_⟩
 rcases List.mem_or_eq_of_mem_set hz with hz | rfl
 ·exact h.bd z hz
 ·exact ⟨h0, h1⟩
theorem Half.stored {w : World} {rv : Value} {vs : List Value} {xs : List (List Int)} (h : Half w rv vs xs) (hn : (blks vs).Nodup) {i : Nat} {g n c : Nat} (hi : vs[i]? = some (.slice (some ⟨g, 0, none⟩) n c)) (j : Nat) (y : Int) (h0 : 0 ≤ y) (h1 : y ≤ 255) :
  Half (w.setCell ⟨g, j, none⟩ (.int .u8 y)) rv vs (xs.set i ((xs.getD i []).set j y)) ∧ Keep (fun k => k ∈ blks vs) w (w.setCell ⟨g, j, none⟩ (.int .u8 y)) := by
 have hk : Keep (fun k => k = g) w (w.setCell ⟨g, j, none⟩ (.int .u8 y)) := Keep.setCell (S := fun k => k = g) (Keep.refl _ _) rfl _
 have ho := h.ows.get hi
 have hg : g ∈ blks vs := mem_of hi rfl
 refine ⟨⟨own_keep h.row hk (fun k e e2 => row_apart h.row h.ows g hg (by rw [← e2]; exact e)), Ows.set hk h.ows hn hi (fun k _ e => by rw [e]; rfl) (ho.stored j y h0 h1)⟩, hk.mono (fun k e => by rw [e]; exact hg)⟩
theorem Two.stored {w : World} {fv wv : Value} {fs ws : List Value} {xs ys : List (List Int)} (h : Two w fv wv fs ws xs ys) {i : Nat} {g n c : Nat} (hi : fs[i]? = some (.slice (some ⟨g, 0, none⟩) n c)) (j : Nat) (y : Int) (h0 : 0 ≤ y) (h1 : y ≤ 255) :
  Two (w.setCell ⟨g, j, none⟩ (.int .u8 y)) fv wv fs ws (xs.set i ((xs.getD i []).set j y)) ys ∧ Keep (fun k => k ∈ blks fs) w (w.setCell ⟨g, j, none⟩ (.int .u8 y)) := by
 obtain ⟨h2, h3⟩ := h.f.stored h.nodup hi j y h0 h1
 exact ⟨⟨h2, h.g.keep h3 (fun k e e2 => h.apart k (.inr e2) e), h.apart, h.nodup⟩, h3⟩
theorem Half.cellAt {w : World} {gf cap : Nat} {vs : List Value} {xs : List (List Int)} (h : Half w (.slice (some ⟨gf, 0, none⟩) vs.length cap) vs xs) {j : Nat} {v : Value} (hj : vs[j]? = some v) : w.cell? ⟨gf, j, none⟩ = some v := by
 have := h.row.cells (g := gf) rfl j _ hj
 rwa [add_flat, Nat.zero_add] at this
theorem Ow.some {w : World} {a : Option Addr} {n c : Nat} {x : List Int} (h : Ow w (.slice a n c) x) (hn : 0 < n) : ∃ g, a = some ⟨g, 0, none⟩ ∧ n = x.length ∧ n ≤ c ∧ ∀ j, w.frozen? ⟨g, j, none⟩ = false ∧ (j < n → w.cell? ⟨g, j, none⟩ = some (.int .u8 (x.getD j 0))) := by
 have hl : n = x.length := by obtain ⟨a, c', hv, _⟩ := h.rd; cases hv; rfl
 subst hl
 rcases h.own.2 with ⟨hv, h0⟩ | ⟨g, cap, cur, hv, _, _, hc, _⟩
 ·omega
 ·cases hv
  refine ⟨g, rfl, rfl, hc, fun j => ⟨h.own.frozenAt j, fun hj => ?_⟩⟩
  rw [h.own.cellAt j (by omega)]
  unfold bc
  rw [List.getElem?_map]
  simp [List.getD, List.getElem?_eq_getElem hj]
theorem getD_set_ne {zs : List (List Int)} {i j : Nat} {z : List Int} (h : i ≠ j) : (zs.set i z).getD j [] = zs.getD j [] := by simp [List.getD, List.getElem?_set_ne h]
theorem getD_set_eq {zs : List (List Int)} {i : Nat} {z : List Int} (h : i < zs.length) : (zs.set i z).getD i [] = z := by simp [List.getD, h]
theorem Half.drewN {w : World} {rv : Value} {vs : List Value} {xs : List (List Int)} (h : Half w rv vs xs) (k : Nat) : Half (w.drewN k) rv vs xs := h.keep (S := fun _ => False) ⟨rfl, rfl, rfl, Nat.le_refl _, fun _ _ _ => rfl⟩ (fun _ _ h => h)
theorem keep_drewN {S : Nat → Prop} {a b : World} (h : Keep S a b) (k : Nat) : Keep S a (b.drewN k) := h.trans ⟨rfl, rfl, rfl, Nat.le_refl _, fun _ _ _ => rfl⟩
theorem Rd.strNO {w : World} {a : Option Addr} {n c : Nat} {xs : List Int} (h : Rd w a n c xs) : ∀ k, (convert 29 9 (.slice a n c)).run Tryz.prog (w.drewN k) = .ok (.string (strOfNums xs)) (w.drewN k) := fun k => (rd_drewN h k).string
set_option maxHeartbeats 1600000 in
theorem loanBack_any (p : Nat) (fv wv : Value) (fs ws : List Value) (xs : List (List Int)) (w : World) (hL : LoanAt w p fv wv fs ws xs) (hf : fs.length ≤ 1000000) (hx : ∀ x ∈ xs, x.length ≤ 100000000) :
  Calls Tryz.prog 35 #[.pointer (some ⟨p, 0, none⟩)] w fun e w' => e = .returned (.bool true) ∧ Keep (LF p fv wv fs ws) w w' := by
 obtain ⟨hC, hT⟩ := hL
 obtain ⟨af, cf, rfl⟩ := own_slO hT.f.row
 obtain ⟨aw, cw, rfl⟩ := own_slO hT.g.row
 have HX : Hid (fs.length = xs.length) := hT.f.ows.len
 have HW : Hid (ws.length = xs.length) := hT.g.ows.len
 have hws : ws.length ≤ 1000000 := by have := HX.out; have := HW.out; omega
 go_enter Tryz.func35, Tryz.ntmps35
 go_wp2
 go_loopw [3, 4, 5] (fun ok i _ wr => ∃ (k : Nat) (zs : List (List Int)), ok = .bool true ∧ i = .int .i64 k ∧ k ≤ fs.length ∧ LCO wr p (.slice af fs.length cf) (.slice aw ws.length cw) ∧ Two wr (.slice af fs.length cf) (.slice aw ws.length cw) fs ws zs xs ∧ (∀ j, k ≤ j → zs.getD j [] = xs.getD j []) ∧ (∀ j, (zs.getD j []).length = (xs.getD j []).length) ∧ Keep (LF p (.slice af fs.length cf) (.slice aw ws.length cw) fs ws) w wr) (fun _ i _ _ => fs.length - (intOf i).toNat)
 case atStart => exact ⟨0, xs, rfl, rfl, Nat.zero_le _, hC, hT, fun _ _ => rfl, fun _ => rfl, Keep.refl _ _⟩
 case round =>
  obtain ⟨k, zs, rfl, rfl, hk, hCr, hTr, hz1, hz2, hK⟩ := hrel
  have hc0 := hCr.c0
  have hc1 := hCr.c1
  by_cases hlt : k < fs.length
  ·have hlz : (k : Int) < (fs.length : Int) := by omega
   have hlz2 : (k : Int) < (ws.length : Int) := by have := HX.out; have := HW.out; omega
   obtain ⟨gf, capf, ak, nk, ck, hv, hcell, hvk, hok, hnk, hrk⟩ := hTr.f.cell hlt
   cases hv
   obtain ⟨gw, capw, aj, nj, cj, hv, hcellw, hvj, hoj, hnj, hrj⟩ := hTr.g.cell (j := k) (by have := HX.out; have := HW.out; omega)
   cases hv
   rw [hz1 k (Nat.le_refl _)] at hrk hok hnk
   have hs := hrk.strNO
   have hs' := hrj.strNO
   generalize strOfNums (xs.getD k []) = str at hs hs'
   have HN : Hid (nk = (xs.getD k []).length) := hnk
   clear hnk hnj
   go_wp2
   go_quiet (fail)
   go_wp2
   have hnb : nk ≤ 100000000 := by
    have := HN.out
    have hk' : k < xs.length := by have := HX.out; omega
    have hm := hx xs[k] (List.getElem_mem hk')
    have e : xs.getD k [] = xs[k] := by simp [List.getD, List.getElem?_eq_getElem hk']
    rw [e] at this; omega
   clear hs hs' hcellw hrj hoj hvj hcell hrk hok
   generalize hWq : World.drewN _ _ = wq
   have hCq : LCO wq p (.slice (some ⟨gf, 0, none⟩) fs.length cf) (.slice (some ⟨gw, 0, none⟩) ws.length cw) := by rw [← hWq]; exact hCr
   have hTq : Two wq (.slice (some ⟨gf, 0, none⟩) fs.length cf) (.slice (some ⟨gw, 0, none⟩) ws.length cw) fs ws zs xs := by rw [← hWq]; exact hTr.keep (S := fun _ => False) (keep_drewN (Keep.refl _ _) _) (fun _ _ h => h)
   have hKq : Keep (LF p (.slice (some ⟨gf, 0, none⟩) fs.length cf) (.slice (some ⟨gw, 0, none⟩) ws.length cw) fs ws) w wq := by rw [← hWq]; exact keep_drewN hK _
   clear hWq hCr hTr hK hc0 hc1
   go_loopw [5] (fun i wr => ∃ (m : Nat) (ys : List (List Int)), i = .int .i64 m ∧ m ≤ nk ∧ LCO wr p (.slice (some ⟨gf, 0, none⟩) fs.length cf) (.slice (some ⟨gw, 0, none⟩) ws.length cw) ∧ Two wr (.slice (some ⟨gf, 0, none⟩) fs.length cf) (.slice (some ⟨gw, 0, none⟩) ws.length cw) fs ws ys xs ∧ (∀ j, k + 1 ≤ j → ys.getD j [] = xs.getD j []) ∧ (∀ j, (ys.getD j []).length = (xs.getD j []).length) ∧ Keep (LF p (.slice (some ⟨gf, 0, none⟩) fs.length cf) (.slice (some ⟨gw, 0, none⟩) ws.length cw) fs ws) w wr) (fun i _ => nk - (intOf i).toNat)
   case atStart => exact ⟨0, zs, rfl, Nat.zero_le _, hCq, hTq, fun j hj => hz1 j (by omega), hz2, hKq⟩
   case round =>
    clear hCq hTq hKq
    obtain ⟨m, ys, rfl, hm, hCr, hTr, hy1, hy2, hK⟩ := hrel
    have hc0 := hCr.c0
    have hcell := hTr.f.cellAt hvk
    by_cases hmn : m < nk
    ·have hmz : (m : Int) < (nk : Int) := by omega
     obtain ⟨g, hak, hnl, hnc, hwr⟩ := (hTr.f.ows.get hvk).some (by omega)
     subst hak
     have HNL : Hid (nk = (ys.getD k []).length) := hnl
     clear hnl
     obtain ⟨hfz, hcm⟩ := hwr m
     have hcm' := hcm hmn
     clear hwr hcm
     go_wp2
     obtain ⟨hT', hK'⟩ := hTr.stored hvk m 90 (by omega) (by omega)
     have hC' : LCO (wr.setCell ⟨g, m, none⟩ (.int .u8 90)) p _ _ := hCr.keep hK' (fun e => LoanAt.not hCr hTr (.inl (.inr e)))
     have hky : k < ys.length := by rw [← hTr.f.ows.len]; exact hlt
     go_roundw
     case rel => exact ⟨m + 1, _, by go_num, by omega, hC', hT', fun j hj => by rw [getD_set_ne (by omega)]; exact hy1 j hj, fun j => by
      by_cases hj : k = j
      ·subst hj; rw [getD_set_eq hky, List.length_set]; exact hy2 k
      ·rw [getD_set_ne hj]; exact hy2 j, hK.andThen hK' (fun i _ e => .inr (.inl (.inr e)))⟩
     case measure => simp [intOf]; omega
    ·have hmz : ¬ (m : Int) < (nk : Int) := by omega
     go_wp2
     go_roundw
     case rel => exact ⟨k + 1, ys, rfl, by go_num, by omega, hCr, hTr, hy1, hy2, hK⟩
     case measure => simp [intOf]; omega
  ·have hlz : ¬ (k : Int) < (fs.length : Int) := by omega
   go_wp2
   go_ret
   exact ⟨rfl, hK⟩
end Go.Proofs.YtikkieaokfailaaGreatDoor
