/- The document's door: three rows side by side; where a user stands. -/
import Derived.Test.YtiidjdedeenijaaDrAp
import Derived.Maps.AppendAt
namespace Go.Proofs.Ytiidjdedeenijaa
open Go.RowKit

/-- Where a text stands first; the row's length, if nowhere. -/
def ix : List ByteArray → ByteArray → Nat
  | [], _ => 0
  | u :: r, s => if u = s then 0 else ix r s + 1

theorem ix_le (s : ByteArray) : ∀ us : List ByteArray, ix us s ≤ us.length
  | [] => Nat.le_refl _
  | u :: r => by unfold ix; split <;> simp; exact ix_le s r
theorem ix_get (s : ByteArray) : ∀ us : List ByteArray, ix us s < us.length → us.getD (ix us s) ⟨#[]⟩ = s
  | [], h => by simp [ix] at h
  | u :: r, h => by
    unfold ix at h ⊢
    split
    · rename_i e; simp [e]
    · rename_i e
      rw [if_neg e] at h
      simpa using ix_get s r (by simpa using h)
theorem ix_before (s : ByteArray) : ∀ (us : List ByteArray) (j : Nat), j < ix us s → us.getD j ⟨#[]⟩ ≠ s
  | [], j, h => by simp [ix] at h
  | u :: r, j, h => by
    unfold ix at h
    split at h
    · omega
    · rename_i e
      cases j with
      | zero => simpa using e
      | succ j => simpa using ix_before s r j (by omega)
theorem ix_app_old {s : ByteArray} : ∀ {us : List ByteArray} (x : ByteArray), ix us s < us.length → ix (us ++ [x]) s = ix us s
  | [], _, h => by simp [ix] at h
  | u :: r, x, h => by
    rw [List.cons_append]
    unfold ix at h ⊢
    split
    · rfl
    · rename_i e
      rw [if_neg e] at h
      rw [ix_app_old x (by simpa using h)]
theorem ix_app_new {s : ByteArray} : ∀ {us : List ByteArray} (x : ByteArray), ix us s = us.length → ix (us ++ [x]) s = if x = s then us.length else us.length + 1
  | [], x, _ => by simp [ix]
  | u :: r, x, h => by
    rw [List.cons_append]
    unfold ix at h ⊢
    split at h
    · simp at h
    · rename_i e
      rw [if_neg e, ix_app_new x (by simpa using h)]
      split <;> simp

/-- What the document's door knows of a user. -/
def rt (us : List ByteArray) (cs : List Int) (ts : List Nat) (s : ByteArray) : Tr := (cs.getD (ix us s) 0, ts.getD (ix us s) NI)

def uApp (us : List ByteArray) (s : ByteArray) : List ByteArray := if ix us s < us.length then us else us ++ [s]
def cApp (us : List ByteArray) (cs : List Int) (s : ByteArray) : List Int := if ix us s < us.length then cs else cs ++ [0]
def tApp (us : List ByteArray) (ts : List Nat) (s : ByteArray) : List Nat := if ix us s < us.length then ts else ts ++ [NI]

theorem uApp_ix (us : List ByteArray) (s : ByteArray) : ix (uApp us s) s = ix us s ∧ ix us s < (uApp us s).length := by
  unfold uApp
  by_cases h : ix us s < us.length
  · rw [if_pos h]; exact ⟨rfl, h⟩
  · have e : ix us s = us.length := by have := ix_le s us; omega
    rw [if_neg h, ix_app_new s e, if_pos rfl]
    exact ⟨e.symm, by rw [List.length_append, e]; simp⟩
theorem rt_app {us : List ByteArray} {cs : List Int} {ts : List Nat} (hc : cs.length = us.length) (ht : ts.length = us.length) (s x : ByteArray) : rt (uApp us s) (cApp us cs s) (tApp us ts s) x = rt us cs ts x := by
  unfold uApp cApp tApp
  by_cases h : ix us s < us.length
  · rw [if_pos h, if_pos h, if_pos h]
  · rw [if_neg h, if_neg h, if_neg h]
    unfold rt
    by_cases hx : ix us x < us.length
    · rw [ix_app_old s hx]
      simp [List.getD, List.getElem?_append_left (show ix us x < cs.length by omega), List.getElem?_append_left (show ix us x < ts.length by omega)]
    · have e : ix us x = us.length := by have := ix_le x us; omega
      rw [ix_app_new s e, e]
      split
      · have g1 : (cs ++ [0])[us.length]? = some 0 := by rw [List.getElem?_append_right (by omega), hc, Nat.sub_self]; rfl
        have g2 : (ts ++ [NI])[us.length]? = some NI := by rw [List.getElem?_append_right (by omega), ht, Nat.sub_self]; rfl
        have g3 : cs[us.length]? = none := List.getElem?_eq_none (by omega)
        have g4 : ts[us.length]? = none := List.getElem?_eq_none (by omega)
        simp [List.getD, g1, g2, g3, g4]
      · have g1 : (cs ++ [0])[us.length + 1]? = none := List.getElem?_eq_none (by simp; omega)
        have g2 : (ts ++ [NI])[us.length + 1]? = none := List.getElem?_eq_none (by simp; omega)
        have g3 : cs[us.length]? = none := List.getElem?_eq_none (by omega)
        have g4 : ts[us.length]? = none := List.getElem?_eq_none (by omega)
        simp [List.getD, g1, g2, g3, g4]

/-- A number set at a user's own place changes nothing of others. -/
theorem rt_setc {us : List ByteArray} {cs : List Int} {ts : List Nat} (hc : cs.length = us.length) {s : ByteArray} (hs : ix us s < us.length) (z : Int) (x : ByteArray) : rt us (cs.set (ix us s) z) ts x = if x = s then (z, (rt us cs ts s).2) else rt us cs ts x := by
  unfold rt
  by_cases h : x = s
  · subst h
    rw [if_pos rfl]
    simp [List.getD, show ix us x < cs.length by omega]
  · rw [if_neg h]
    have hne : ix us s ≠ ix us x := fun e => by
      by_cases hx : ix us x < us.length
      · exact h (by rw [← ix_get x us hx, ← e, ix_get s us hs])
      · omega
    simp [List.getD, hne]
theorem rt_sett {us : List ByteArray} {cs : List Int} {ts : List Nat} (ht : ts.length = us.length) {s : ByteArray} (hs : ix us s < us.length) (z : Nat) (x : ByteArray) : rt us cs (ts.set (ix us s) z) x = if x = s then ((rt us cs ts s).1, z) else rt us cs ts x := by
  unfold rt
  by_cases h : x = s
  · subst h
    rw [if_pos rfl]
    simp [List.getD, show ix us x < ts.length by omega]
  · rw [if_neg h]
    have hne : ix us s ≠ ix us x := fun e => by
      by_cases hx : ix us x < us.length
      · exact h (by rw [← ix_get x us hx, ← e, ix_get s us hs])
      · omega
    simp [List.getD, hne]

/-! ### The rows in memory -/
structure RD (w : World) (B d : Nat) (v2 v3 v4 : Value) (most : Int) (sec : Nat) (us : List ByteArray) (cs : List Int) (ts : List Nat) : Prop where
  blk : w.heap[d]? = some (.cells #[.int .i64 most, .float .f64 sec, v2, v3, v4] 54 (0, 0))
  o2 : w.ownsRow B 9 1 v2 us.length (us.map Value.string)
  o3 : w.ownsRow B 3 1 v3 us.length (cs.map (Value.int .i64))
  o4 : w.ownsRow B 24 1 v4 us.length (ts.map (Value.float .f64))
  hd : B ≤ d

/-- The blocks of the document's door. -/
def RF (d : Nat) (v2 v3 v4 : Value) (k : Nat) : Prop := k = d ∨ v2.ownBlock = some k ∨ v3.ownBlock = some k ∨ v4.ownBlock = some k

section
variable {w : World} {B d : Nat} {v2 v3 v4 : Value} {most : Int} {sec : Nat} {us : List ByteArray} {cs : List Int} {ts : List Nat}

theorem RD.lenc (h : RD w B d v2 v3 v4 most sec us cs ts) : cs.length = us.length := by have := h.o3.1; simpa using this
theorem RD.lent (h : RD w B d v2 v3 v4 most sec us cs ts) : ts.length = us.length := by have := h.o4.1; simpa using this
theorem RD.lt (h : RD w B d v2 v3 v4 most sec us cs ts) : d < w.heap.size := (Array.getElem?_eq_some_iff.1 h.blk).1
theorem RD.cell (h : RD w B d v2 v3 v4 most sec us cs ts) (i : Nat) : w.cell? ⟨d, i, none⟩ = #[Value.int .i64 most, .float .f64 sec, v2, v3, v4][i]? := cell_of_row w d i _ _ (0, 0) h.blk
theorem RD.fz (h : RD w B d v2 v3 v4 most sec us cs ts) (i : Nat) : w.frozen? ⟨d, i, none⟩ = false := frozen_of_row w d i _ _ h.blk
theorem own_type {e : TypeId} {n : Nat} {v : Value} {xs : List Value} (h : w.ownsRow B e 1 v n xs) {k : Nat} (hk : v.ownBlock = some k) : ∃ cur, w.heap[k]? = some (.cells cur e (0, 0)) := by
  rcases h.2 with ⟨rfl, _⟩ | ⟨g, cap, cur, rfl, _, hh, _⟩
  · cases hk
  · cases hk; exact ⟨cur, hh⟩
/-- Whatever is none of its rows' types is none of its blocks. -/
theorem RD.apart (h : RD w B d v2 v3 v4 most sec us cs ts) {k : Nat} {o : Obj} (ho : w.heap[k]? = some o) (hn : ∀ c t fz, o = .cells c t fz → t ≠ 54 ∧ t ≠ 9 ∧ t ≠ 3 ∧ t ≠ 24) : ¬ RF d v2 v3 v4 k := by
  rintro (rfl | e | e | e)
  · have := h.blk; rw [ho] at this; injection this with this; exact (hn _ _ _ this).1 rfl
  · obtain ⟨cur, hc⟩ := own_type h.o2 e; rw [ho] at hc; injection hc with hc; exact (hn _ _ _ hc).2.1 rfl
  · obtain ⟨cur, hc⟩ := own_type h.o3 e; rw [ho] at hc; injection hc with hc; exact (hn _ _ _ hc).2.2.1 rfl
  · obtain ⟨cur, hc⟩ := own_type h.o4 e; rw [ho] at hc; injection hc with hc; exact (hn _ _ _ hc).2.2.2 rfl
theorem RD.keep {S : Nat → Prop} {w' : World} (h : RD w B d v2 v3 v4 most sec us cs ts) (hk : Keep S w w') (hs : ∀ k, RF d v2 v3 v4 k → ¬ S k) : RD w' B d v2 v3 v4 most sec us cs ts :=
  ⟨(hk.block d h.lt (hs d (Or.inl rfl))).trans h.blk, own_keep h.o2 hk (fun k e => hs k (Or.inr (Or.inl e))), own_keep h.o3 hk (fun k e => hs k (Or.inr (Or.inr (Or.inl e)))), own_keep h.o4 hk (fun k e => hs k (Or.inr (Or.inr (Or.inr e)))), h.hd⟩
theorem RD.below {w' : World} (h : RD w B d v2 v3 v4 most sec us cs ts) (hb : Below w.heap.size w w') : RD w' B d v2 v3 v4 most sec us cs ts :=
  h.keep (S := fun _ => False) (Keep.ofBelow hb) (fun _ _ h => h)
theorem RD.high (h : RD w B d v2 v3 v4 most sec us cs ts) {k : Nat} (hk : RF d v2 v3 v4 k) : B ≤ k := by
  rcases hk with rfl | e | e | e
  · exact h.hd
  · exact (h.o2.lt k e).1
  · exact (h.o3.lt k e).1
  · exact (h.o4.lt k e).1

theorem own_slice {e : TypeId} {n : Nat} {v : Value} {xs : List Value} (h : w.ownsRow B e 1 v n xs) : ∃ a c, v = .slice a n c ∧ (∀ j u, xs[j]? = some u → ∃ g, a = some ⟨g, 0, none⟩ ∧ w.cell? ⟨g, j, none⟩ = some u ∧ w.frozen? ⟨g, j, none⟩ = false) := by
  rcases h.2 with ⟨rfl, rfl⟩ | ⟨g, cap, cur, rfl, _, hh, _⟩
  · refine ⟨none, 0, rfl, fun j u hu => ?_⟩
    have := h.1
    have : xs = [] := List.eq_nil_of_length_eq_zero (by omega)
    subst this
    simp at hu
  · refine ⟨_, cap, rfl, fun j u hu => ⟨g, rfl, ?_, frozen_of_row w g j _ _ hh⟩⟩
    have := h.cells (g := g) rfl j u hu
    rw [add_flat] at this
    simpa using this

theorem own_set {e : TypeId} {n cap g : Nat} {xs : List Value} (h : w.ownsRow B e 1 (.slice (some ⟨g, 0, none⟩) n cap) n xs) (j : Nat) (u : Value) : (w.setCell ⟨g, j, none⟩ u).ownsRow B e 1 (.slice (some ⟨g, 0, none⟩) n cap) n (xs.set j u) := by
  obtain ⟨h1, h2⟩ := h
  rcases h2 with ⟨hv, _⟩ | ⟨g', cap', cur, hv, hg, hh, hnc, hm, hsz, ht⟩
  · cases hv
  · cases hv
    refine ⟨by simpa using h1, .inr ⟨g, cap, cur.setIfInBounds j u, rfl, hg, heap_setCell_same w g j _ e _ hh, hnc, hm, by simpa using hsz, ?_⟩⟩
    rw [← ht]
    simp [Array.toList_setIfInBounds, List.take_set]
end

end Go.Proofs.Ytiidjdedeenijaa
