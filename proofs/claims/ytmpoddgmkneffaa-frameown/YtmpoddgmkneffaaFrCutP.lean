/- Payloads gathered over many pieces; rows of payloads behind one another. -/
import Derived.Test.YtmpoddgmkneffaaFrDuo
namespace Go.Proofs.Ytmpoddgmkneffaa
open Go.ChangeShapes Go.WideShapes Go.ChangeAt Go.RowKit Go.Shelf

theorem cut_step2 {M : Nat} {pre x h2 : List Int} {ms : List (List Int)} {b2 : Bool} (h : cut M pre = (ms, h2, b2)) : cut M (pre ++ x) = (ms ++ (stepS M h2 b2 x).1, (stepS M h2 b2 x).2) := by
  rw [cut_app, h]
  unfold stepS
  cases b2 with
  | true => simp
  | false => simp

/-- Slices that read as these lists, each in a block of its own kind. -/
def PRd (W : World) (lo : Nat) : List Value → List (List Int) → Prop
  | [], [] => True
  | v :: vs, x :: xs => (∃ a cap, v = .slice a x.length cap ∧ W.ownsRow lo 5 1 v x.length (bc x) ∧ Bd x) ∧ PRd W lo vs xs
  | [], _ :: _ => False
  | _ :: _, [] => False

theorem PRd.of {W : World} : ∀ {vs : List Value} {xs : List (List Int)} {lo lo' : Nat}, Pays W lo vs xs → lo' ≤ lo → PRd W lo' vs xs
  | [], [], _, _, _, _ => trivial
  | [], _ :: _, _, _, h, _ => h.elim
  | _ :: _, [], _, _, h, _ => h.elim
  | _ :: _, _ :: _, _, _, ⟨g, cap, rfl, h1, b1, hr⟩, hl => ⟨⟨some ⟨g, 0, none⟩, cap, rfl, own_weak h1 hl, b1⟩, PRd.of hr (by have := (row_block h1).1; omega)⟩
theorem PRd.append {W : World} {lo : Nat} {vs' : List Value} {xs' : List (List Int)} (h' : PRd W lo vs' xs') : ∀ {vs : List Value} {xs : List (List Int)}, PRd W lo vs xs → PRd W lo (vs ++ vs') (xs ++ xs')
  | [], [], _ => h'
  | [], _ :: _, h => h.elim
  | _ :: _, [], h => h.elim
  | _ :: _, _ :: _, ⟨h1, hr⟩ => ⟨h1, PRd.append h' hr⟩
theorem PRd.keep {S : Nat → Prop} {W W' : World} {lo : Nat} (hk : Keep S W W') : ∀ {vs : List Value} {xs : List (List Int)}, PRd W lo vs xs → (∀ v ∈ vs, ∀ k, v.ownBlock = some k → ¬ S k) → PRd W' lo vs xs
  | [], [], _, _ => trivial
  | [], _ :: _, h, _ => h.elim
  | _ :: _, [], h, _ => h.elim
  | v :: _, _ :: _, ⟨⟨g, cap, hv, h1, b1⟩, hr⟩, hs => ⟨⟨g, cap, hv, own_keep h1 hk (fun k e => hs v (List.mem_cons_self ..) k e), b1⟩, PRd.keep hk hr (fun u hu => hs u (List.mem_cons_of_mem _ hu))⟩
theorem PRd.len {W : World} {lo : Nat} : ∀ {vs : List Value} {xs : List (List Int)}, PRd W lo vs xs → vs.length = xs.length
  | [], [], _ => rfl
  | [], _ :: _, h => h.elim
  | _ :: _, [], h => h.elim
  | _ :: _, _ :: _, ⟨_, hr⟩ => by simp [hr.len]
theorem PRd.blk {W : World} {lo : Nat} : ∀ {vs : List Value} {xs : List (List Int)}, PRd W lo vs xs → ∀ v ∈ vs, ∀ k, v.ownBlock = some k → lo ≤ k ∧ ∃ cur, W.heap[k]? = some (.cells cur 5 (0, 0))
  | [], [], _, _, hv => by cases hv
  | [], _ :: _, h, _, _ => h.elim
  | _ :: _, [], h, _, _ => h.elim
  | _ :: _, _ :: _, ⟨⟨g, cap, rfl, h1, b1⟩, hr⟩, v, hv => fun k hk => by
    rcases List.mem_cons.1 hv with rfl | h
    · exact own_type h1 hk
    · exact hr.blk v h k hk
theorem PRd.get {W : World} {lo : Nat} : ∀ {vs : List Value} {xs : List (List Int)}, PRd W lo vs xs → ∀ j, j < xs.length → ∃ aj nj cj, vs[j]? = some (.slice aj nj cj) ∧ Rd W aj nj cj (xs.getD j [])
  | [], [], _, j, hj => by simp at hj
  | [], _ :: _, h, _, _ => h.elim
  | _ :: _, [], h, _, _ => h.elim
  | _ :: vs, x :: xs, ⟨⟨g, cap, rfl, ho, hb⟩, hr⟩, j, hj => by
    cases j with
    | zero =>
      obtain ⟨a, c, hv, hR⟩ := Rd.ofOwn ho hb
      exact ⟨_, _, _, rfl, by cases hv; exact hR⟩
    | succ j =>
      obtain ⟨aj, nj, cj, h1, h2⟩ := hr.get j (by simpa using hj)
      exact ⟨aj, nj, cj, by simpa using h1, by simpa using h2⟩
theorem PRd.one {W : World} {lo : Nat} : ∀ {vs : List Value} {xs : List (List Int)}, PRd W lo vs xs → ∀ v ∈ vs, v.oneCell' = true
  | [], [], _, _, hv => by cases hv
  | [], _ :: _, h, _, _ => h.elim
  | _ :: _, [], h, _, _ => h.elim
  | _ :: _, _ :: _, ⟨⟨_, _, rfl, _, _⟩, hr⟩, v, hv => by
    rcases List.mem_cons.1 hv with rfl | h
    · rfl
    · exact hr.one v h

theorem rrd_of' {W : World} {lo lo' n c : Nat} {a : Option Addr} {vs : List Value} {xs : List (List Int)} (hrow : W.ownsRow lo 31 1 (.slice a n c) n vs) (hP : PRd W lo' vs xs) (hn : xs.length = n) (hm : n ≤ 9223372036854775807) : RRd W a n xs := by
  refine ⟨hn, hm, fun h0 => ?_⟩
  rcases hrow.2 with ⟨hv, h00⟩ | ⟨g, cap, cur, hv, _⟩
  · omega
  · cases hv
    refine ⟨g, 0, rfl, fun j hj => ?_⟩
    obtain ⟨aj, nj, cj, h1, h2⟩ := hP.get j (by omega)
    refine ⟨aj, nj, cj, ?_, h2⟩
    have := hrow.cells (g := g) rfl j _ h1
    rwa [add_flat] at this

theorem own_slice {W : World} {lo n sz : Nat} {e : TypeId} {v : Value} {xs : List Value} (h : W.ownsRow lo e sz v n xs) : ∃ a c, v = .slice a n c := by
  rcases h.2 with ⟨rfl, rfl⟩ | ⟨g, cap, cur, rfl, _⟩
  · exact ⟨none, 0, rfl⟩
  · exact ⟨_, _, rfl⟩

/-- 'append(m, n...)' of rows, both the call's own. -/
theorem wp_rows {w : World} {ops : Array Oper} {rest : List Oper} {o : Oper} {a : Act} {Q : Exit → Act → World → Prop} (hgd : o.guard = none) (s x : Operand)
    (ho : o.op = .call { callee := .builtin .append, args := #[s, x], argTypes := #[22, 22] })
    (base : Nat) (v : Value) (n : Nat) (vs : List Value) (hs : a.eval s = v) (hown : w.ownsRow base 31 1 v n vs)
    (b2 : Nat) (ao : Option Addr) (m c : Nat) (us : List Value) (hx : a.eval x = .slice ao m c) (hr : w.ownsRow b2 31 1 (.slice ao m c) m us) (h1 : ∀ u ∈ us, u.oneCell' = true) (hb : n + m ≤ 1000000000) (hbase : base ≤ w.heap.size)
    (h : ∀ a' c' w', w'.ownsRow base 31 1 (.slice a' (n + m) c') (n + m) (vs ++ us) → w.grownBy w' v.ownBlock → wpList Try.prog ops Q rest (a.put o.dst (.slice a' (n + m) c')) w') : wpList Try.prog ops Q (o :: rest) a w := by
  obtain ⟨i0, hi, hz0, hz1, hz2⟩ := info_parts Try.info31
  rcases hr.2 with ⟨hv, hm⟩ | ⟨g, cap, cur, hv, hg, hh, _⟩
  · cases hv
    have hus : us = [] := List.eq_nil_of_length_eq_zero (by simpa using hr.1)
    subst hus
    obtain ⟨a', c', hv⟩ := own_slice hown
    refine wpList_append_own_none hgd s x 22 ho base 31 i0 1 Try.underlying22 hi v n vs hs hown hx ?_
    subst hv
    exact h a' c' w (by simpa using hown) (World.grownBy.refl _ _)
  · cases hv
    refine wpList_append_own w hgd s x 22 ho base 31 i0 (.slice none 0 0) 1 24 Try.underlying22 hi hz0 hz1 hz2 rfl (by decide) v n vs hs hown ⟨g, 0, none⟩ m c us hx (by have := hr.1; omega) (hr.cells (g := g) rfl) h1 (by unfold maxLen; omega) (by omega) hbase ?_
    intro v' w' k1 k2 _
    obtain ⟨a', c', rfl⟩ := own_slice k1
    exact h a' c' w' k1 k2

theorem Rd.keepN {S : Nat → Prop} {w w' : World} {a : Option Addr} {n c : Nat} {xs : List Int} (h : Rd w a n c xs) (hk : Keep S w w') (hs : 0 < n → ∀ ad, a = some ad → ¬ S ad.block) : Rd w' a n c xs :=
  ⟨h.len, h.cap, h.most, h.nil, h.bytes, fun ad ha j hj => by
    have hc := h.cells ad ha j hj
    exact hk.cell hc (by
      have : (ad.add j).block = ad.block := by unfold Addr.add; split <;> rfl
      rw [this]; exact hs (by omega) ad ha)⟩

theorem RC.not_rd {W : World} {p M : Nat} {av : Option Addr} {nv cv : Nat} {big : Bool} (hC : RC W p M (.slice av nv cv) big) {a : Option Addr} {n c : Nat} {xs : List Int} (hR : Rd W a n c xs) (hn : 0 < n) {ad : Addr} (ha : a = some ad) : ad.block ≠ p := by
  obtain ⟨b, off, hb, hc⟩ := hR.flat hn
  rw [ha] at hb
  cases hb
  intro e
  have e' : b = p := e
  have h0 := hc 0 hn
  rw [Nat.add_zero, e'] at h0
  have hh : W.heap[p]? = some (.cells #[.int .u64 M, .slice av nv cv, .bool big] 56 (0, 0)) := hC
  unfold World.cell? at h0
  rw [hh] at h0
  match off, h0 with
  | 0, h0 => simp at h0
  | 1, h0 => simp at h0
  | 2, h0 => simp at h0
  | n + 3, h0 => simp at h0

def errN (b : Bool) : Int := if b = true then 5 else 0

/-- As Fed, the error's number under a name. -/
def FedN (w : World) (p M : Nat) (v : Value) (r : List (List Int) × List Int × Bool) (e : Ending) (w' : World) : Prop :=
  ∃ a c vs v', e = .returned (.tuple #[.slice a r.1.length c, .int .i64 (errN r.2.2)]) ∧
    RC w' p M v' r.2.2 ∧ w'.ownsRow 0 5 1 v' r.2.1.length (bc r.2.1) ∧ (∀ k, v'.ownBlock = some k → v.ownBlock = some k ∨ w.heap.size ≤ k) ∧
    w'.ownsRow w.heap.size 31 1 (.slice a r.1.length c) r.1.length vs ∧ Pays w' w.heap.size vs r.1 ∧ (∀ k, v'.ownBlock = some k → ∀ u ∈ vs, ∀ j, u.ownBlock = some j → j < k) ∧
    Keep (fun k => k = p ∨ v.ownBlock = some k) w w'

theorem feedN (p M : Nat) (v : Value) (held : List Int) (big : Bool) (ab : Option Addr) (nb cb : Nat) (bs : List Int) (w : World) (hC : RC w p M v big) (hown : w.ownsRow 0 5 1 v held.length (bc held)) (hbd : Bd held) (hnil : big = true → held = [])
    (hR : Rd w ab nb cb bs) (hlen : held.length + nb ≤ 1000000) (r : List (List Int) × List Int × Bool) (hr : Hid (stepS M held big bs = r)) : Calls Try.prog 11 #[.pointer (some ⟨p, 0, none⟩), .slice ab nb cb] w (FedN w p M v r) := by
  have h := feedS p M v held big ab nb cb bs w hC hown hbd hnil hR hlen
  rw [hr.out] at h
  exact h

theorem ints_of_trod {H : Type} {enc : TypeId × Value → H} {W : World} {a : Option Addr} {n c : Nat} {d : DataW H} {ps : List MemPlace}
    (h : DataW.Trod enc Try.prog W 0 (fun _ => true) true 40 (.slice a n c) d ps) : n ≤ 9223372036854775807 ∧ (0 < n → ∃ b off, a = some ⟨b, off, none⟩ ∧ ∀ j, j < n → ∃ z, W.cell? ⟨b, off + j, none⟩ = some (.int .i64 z) ∧ -9223372036854775808 ≤ z ∧ z ≤ 9223372036854775807) := by
  obtain ⟨fuel, hf⟩ := h
  rcases open_ints Try.underlying40 Try.underlying3 (by kernel_rfl) hf with ⟨hcs, _⟩ | ⟨x, l, cc, zs, hcs, _, hl, hm, hz, _, hcell, hwz⟩
  · simp [Value.cells] at hcs
    obtain ⟨rfl, rfl, rfl⟩ := hcs
    exact ⟨by omega, fun h => by omega⟩
  · simp [Value.cells] at hcs
    obtain ⟨rfl, rfl, rfl⟩ := hcs
    have hz' : zs.length = c := by simpa using hz
    have hm' : c ≤ 9223372036854775807 := hm
    refine ⟨by omega, fun h0 => ?_⟩
    obtain ⟨b, off, spot⟩ := x
    have hspot : spot = none := by simpa [Addr.add] using World.cell?_spot (hcell 0 (by omega))
    subst hspot
    refine ⟨b, off, rfl, fun j hj => ?_⟩
    have h1 := hcell j (by omega)
    rw [add_flat] at h1
    have hb := bounds_i64 (hwz (zs.getD j 0) (by
      have : j < zs.length := by omega
      simp [List.getD, List.getElem?_eq_getElem this]))
    exact ⟨_, h1, hb.1, hb.2⟩

end Go.Proofs.Ytmpoddgmkneffaa
