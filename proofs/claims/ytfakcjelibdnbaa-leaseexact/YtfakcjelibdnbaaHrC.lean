/- lease: the document's heap: Drop. -/
import Derived.Test.YtfakcjelibdnbaaHrB
namespace Go.Proofs.Ytfakcjelibdnbaa
open Go.RowKit Go.Joins

theorem wi64' {n m : Int} (h0 : -9223372036854775808 ≤ n) (h1 : n ≤ 9223372036854775807) (h : n = m) : IntKind.i64.wrap n = m := by
  subst h; simp [IntKind.wrap, IntKind.bits, IntKind.signed]; omega
theorem exec_app {w w' : World} {o : Oper} {ρ : Operand → Value} {s x : Operand} {t : TypeId} {v u v' : Value} (ho : o.op = .call { callee := .builtin .append, args := #[s, x], argTypes := #[t, t] }) (hs : ρ s = v) (hx : ρ x = u)
    (hrun : (Builtin.append_ #[t, t] o.type #[v, u]).run Try.prog w = .ok v' w') : (execOp ρ o).run Try.prog w = .ok (.value v') w' := by
  simp only [execOp, ho, resolve, invoke, builtin, Sem.run_bind, Sem.run_pure, Result.andThen_ok, List.map_toArray, List.map_cons, List.map_nil, hs, hx, hrun]
/-- 'append(s, x...)' at its run: the row is the call's own. -/
theorem run_appV (t e : TypeId) (z : Value) (bytes : Nat) (ht : Try.prog.underlying t = some (.slice e)) (hif : (Try.prog.info? e).map (fun i => (i.zero, i.size, i.bytes)) = some (some z, 1, bytes)) (hby : bytes ≤ 100) (hzs : z.cells.size = 1)
    {w : World} (ty : TypeId) {base : Nat} {v : Value} {n : Nat} {xs : List Value} (hown : w.ownsRow base e 1 v n xs) (ad : Addr) (m c : Nat) (ys : List Value) (hl : ys.length = m) (hr : ∀ j u, ys[j]? = some u → w.cell? (ad.add j) = some u) (h1 : ∀ u ∈ ys, u.oneCell' = true) (hn : n + m ≤ 1000000) (hbase : base ≤ w.heap.size) :
    ∃ v' w', (Builtin.append_ #[t, t] ty #[v, .slice (some ad) m c]).run Try.prog w = .ok v' w' ∧ w'.ownsRow base e 1 v' (n + m) (xs ++ ys) ∧ Keep (fun k => v.ownBlock = some k) w w' := by
  obtain ⟨i0, hi, hz0, hz1, hz2⟩ := info_parts hif
  have hb2 : (n + m) * bytes ≤ 1000000 * 100 := Nat.mul_le_mul hn hby
  obtain ⟨v', w', hrun, h2, h3, _⟩ := run_append_own (P := Try.prog) w base t ty e i0 z 1 bytes ht hi hz0 hz1 hz2 hzs (by decide) v n xs hown ad m c ys (by omega) hr h1 (by unfold maxLen; omega) (by omega) hbase
  exact ⟨v', w', hrun, h2, Keep.ofGrown h3⟩

theorem own_empty (w : World) (e : TypeId) : (w.alloc (.cells #[] e)).ownsRow w.heap.size e 1 (.slice (some ⟨w.heap.size, 0, none⟩) 0 0) 0 [] :=
  ⟨rfl, .inr ⟨w.heap.size, 0, #[], rfl, Nat.le_refl _, alloc_at w _, Nat.le_refl _, Nat.zero_le _, rfl, rfl⟩⟩
theorem own_sl {w : World} {B : Nat} {e : TypeId} {v : Value} {n : Nat} {xs : List Value} (h : w.ownsRow B e 1 v n xs) : ∃ g c, v = sl g n c ∧ ∀ k, g = some k → B ≤ k := by
  rcases h.2 with ⟨rfl, rfl⟩ | ⟨b, cap, cur, rfl, hb, _⟩
  · exact ⟨none, 0, rfl, fun k e => (by cases e)⟩
  · exact ⟨some b, cap, rfl, fun k e => (by cases e; exact hb)⟩
theorem own_ltX {w : World} {B : Nat} {e : TypeId} {sz : Nat} {v : Value} {n : Nat} {xs : List Value} (h : w.ownsRow B e sz v n xs) {k : Nat} (hk : v.ownBlock = some k) : B ≤ k ∧ k < w.heap.size := by
  rcases h.2 with ⟨e, _⟩ | ⟨g, cap, cur, e, hg, hh, _⟩
  · rw [e] at hk; cases hk
  · rw [e] at hk
    have : g = k := Option.some.inj hk
    subst this
    exact ⟨hg, (Array.getElem?_eq_some_iff.1 hh).1⟩
theorem own_new {w : World} {B : Nat} {e : TypeId} {v : Value} {n : Nat} {xs : List Value} (h : w.ownsRow B e 1 v n xs) {k : Nat} (hk : v.ownBlock = some k) : B ≤ k := (own_ltX h hk).1

/-- What a row's pieces read as. -/
theorem row_take {w : World} {e : TypeId} {b n c : Nat} {xs : List Value} (h : w.ownsRow 0 e 1 (sl (some b) n c) n xs) (i : Nat) : ∀ j u, (xs.take i)[j]? = some u → w.cell? ((⟨b, 0, none⟩ : Addr).add j) = some u := fun j u hu => by
  have hj : j < i := by
    have := (List.getElem?_eq_some_iff.1 hu).1
    simp at this; omega
  rw [List.getElem?_take, if_pos hj] at hu
  exact h.cells (g := b) rfl j u hu
theorem row_drop {w : World} {e : TypeId} {b n c : Nat} {xs : List Value} (h : w.ownsRow 0 e 1 (sl (some b) n c) n xs) (i : Nat) : ∀ j u, (xs.drop i)[j]? = some u → w.cell? ((⟨b, i, none⟩ : Addr).add j) = some u := fun j u hu => by
  rw [List.getElem?_drop] at hu
  have := h.cells (g := b) rfl (i + j) u hu
  rw [add_flat] at this ⊢
  rw [Nat.zero_add] at this
  exact this
theorem one_take {xs : List Value} (h : ∀ u ∈ xs, u.oneCell' = true) (i : Nat) : ∀ u ∈ xs.take i, u.oneCell' = true := fun u hu => h u (List.mem_of_mem_take hu)
theorem one_drop {xs : List Value} (h : ∀ u ∈ xs, u.oneCell' = true) (i : Nat) : ∀ u ∈ xs.drop i, u.oneCell' = true := fun u hu => h u (List.mem_of_mem_drop hu)
theorem fc_one (l : List Nat) : ∀ u ∈ fc l, u.oneCell' = true := fun u hu => by
  obtain ⟨s, _, rfl⟩ := List.mem_map.1 hu
  rfl
theorem drop_at : ∀ {L : Le}, Nk L → ∀ {i : Nat} (hi : i < L.length), drp L L[i].1 = L.take i ++ L.drop (i + 1)
  | [], _, _, h => by cases h
  | x :: L, hn, 0, _ => by
    have hx : x.1 ∉ L.map (·.1) := (List.nodup_cons.1 hn).1
    have e1 : drp (x :: L) x.1 = drp L x.1 := by unfold drp; simp
    show drp (x :: L) x.1 = L
    rw [e1]
    exact drp_none fun r hr e => hx (List.mem_map.2 ⟨r, hr, e⟩)
  | x :: L, hn, i + 1, hi => by
    have hi' : i < L.length := by simp at hi; omega
    have hx : x.1 ∉ L.map (·.1) := (List.nodup_cons.1 hn).1
    have hne : x.1 ≠ L[i].1 := fun e => hx (List.mem_map.2 ⟨L[i], List.getElem_mem hi', e.symm⟩)
    have e1 : drp (x :: L) L[i].1 = x :: drp L L[i].1 := by unfold drp; simp [hne]
    show drp (x :: L) L[i].1 = x :: (L.take i ++ L.drop (i + 1))
    rw [e1, drop_at (List.nodup_cons.1 hn).2 hi']

/-- What Drop of the document leaves. -/
def RDr (w w' : World) (r : Nat) (L : Le) : Prop := ∃ ak ck ae ce, RI w' r L ak ck ae ce ∧ Keep (fun k => k = r) w w' ∧ (∀ k, ak = some k → w.heap.size ≤ k) ∧ (∀ k, ae = some k → w.heap.size ≤ k)

set_option maxRecDepth 100000 in
set_option maxHeartbeats 4000000 in
theorem rdrop_yes {w : World} {r : Nat} {L : Le} {ak : Option Nat} {ck : Nat} {ae : Option Nat} {ce : Nat} (h : RI w r L ak ck ae ce) (k : ByteArray) (hl : L.length ≤ 1000) (hk : Nk L) (hin : ∃ p ∈ L, p.1 = k) :
    Calls Try.prog 27 #[.pointer (some ⟨r, 0, none⟩), .string k] w fun e w' => e = .returned (.bool true) ∧ RDr w w' r (drp L k) := by
  have cA := at_any h k (by omega)
  have H : Hid (RI w r L ak ck ae ce) := h
  have HK : Hid (Nk L) := hk
  have HIn : Hid (∃ p ∈ L, p.1 = k) := hin
  clear h hk hin
  go_enter Try.func27, Try.ntmps27
  go_upto_region 2 with (go_at_call 40; refine cA.mono ?_; clear cA; rintro e w1 ⟨⟨z, rfl, hz⟩, hw⟩; rw [hw]; clear hw w1)
  obtain ⟨i, hi, rfl, e1⟩ : ∃ i : Nat, ∃ _ : i < L.length, z = i ∧ L[i].1 = k := by
    rcases hz with ⟨_, h⟩ | h
    · obtain ⟨p, hp, e⟩ := HIn.out
      exact absurd e (h p hp)
    · exact h
  have HE : Hid (drp L k = L.take i ++ L.drop (i + 1)) := by show _ = _; rw [← e1]; exact drop_at HK.out hi
  have hi0 : ¬ ((i : Int) < 0) := by omega
  obtain ⟨b, rfl, _⟩ := H.out.key hi
  obtain ⟨b2, rfl, _⟩ := H.out.end' hi
  have hkc := own_cap H.out.kr
  have hec := own_cap H.out.er
  unfold maxLen at hkc hec
  clear hz e1
  go_upto_region 4 with fail
  have blka := H.out.blk
  have rowa := H.out.kr
  refine wp_region_lx (fun w' => Below w.drew.heap.size w.drew w') [19] 20 (by kernel_rfl) (by kernel_rfl) ?_
  have k0a : Keep (fun _ => False) w w.drew := (Keep.refl _ _).drew
  obtain ⟨Xa, hXa⟩ : ∃ X, w.drew = X := ⟨_, rfl⟩
  rw [hXa] at k0a ⊢
  clear hXa
  have HS : Below Xa.heap.size Xa Xa := Below.refl _ _
  have bXa := (k0a.block r (Array.getElem?_eq_some_iff.1 blka).1 (fun h => h)).trans blka
  have rwX : Xa.ownsRow 0 9 1 (sl (some b) L.length ck) L.length (sc (ks L)) := own_keep rowa k0a (fun _ _ h => h)
  have cX : Xa.cell? ⟨r, 0, none⟩ = some (.slice (some ⟨b, 0, none⟩) L.length ck) := by rw [cell_of_block bXa]; rfl
  have hs1 : (i : Int) ≤ (ck : Int) := by omega
  have hs2 : ((i : Int) + 1) ≤ (L.length : Int) := by omega
  have hs3 : (L.length : Int) ≤ (ck : Int) := by omega
  have hiL : (0 : Int) ≤ (i : Int) := by omega
  obtain ⟨oa, hoa, hva⟩ : ∃ o, (if ck = i + 1 then some (⟨b, 0, none⟩ : Addr) else some ⟨b, i + 1, none⟩) = some ⟨b, o, none⟩ ∧ (L.length = i + 1 ∨ o = i + 1) := by
    by_cases e : ck = i + 1
    · exact ⟨0, by rw [if_pos e], .inl (by omega)⟩
    · exact ⟨i + 1, by rw [if_neg e], .inr rfl⟩
  have hwr : IntKind.i64.wrap ((i : Int) + 1) = (i : Int) + 1 := wi64' (by omega) (by omega) (by omega)
  refine lx_rd 0 ?vRa0 (by kernel_rfl) (fun _ _ d _ _ h => by cases d <;> exact h) (by kernel_rfl) HS rfl rfl rfl (fun w' hS => ?hRa0) ?_
  case hRa0 => first | (go_simp; rfl) | go_simp
  simp only [List.setIfInBounds_toArray, List.set_cons_zero, List.set_cons_succ]
  refine lx_rd 2 ?vRa2 (by kernel_rfl) (fun _ _ d _ _ h => by cases d <;> exact h) (by kernel_rfl) HS rfl rfl rfl (fun w' hS => ?hRa2) ?_
  case hRa2 => first | (go_simp; rfl) | go_simp
  simp only [List.setIfInBounds_toArray, List.set_cons_zero, List.set_cons_succ]
  refine lx_rd 3 ?vRa3 (by kernel_rfl) (fun _ _ d _ _ h => by cases d <;> exact h) (by kernel_rfl) HS rfl rfl rfl (fun w' hS => ?hRa3) ?_
  case hRa3 => first | (go_simp; rfl) | go_simp
  simp only [List.setIfInBounds_toArray, List.set_cons_zero, List.set_cons_succ]
  refine lx_rd 4 ?vRa4 (by kernel_rfl) (fun _ _ d _ _ h => by cases d <;> exact h) (by kernel_rfl) HS rfl rfl rfl (fun w' hS => ?hRa4) ?_
  case hRa4 => first | (go_simp; rfl) | go_simp
  simp only [List.setIfInBounds_toArray, List.set_cons_zero, List.set_cons_succ]
  refine lx_rd 5 (.slice (some ⟨b, 0, none⟩) L.length ck) (by kernel_rfl) (fun _ _ d _ _ h => by cases d <;> exact h) (by kernel_rfl) HS rfl rfl rfl (fun w' hS => ?hRa5) ?_
  case hRa5 => have q1 := below_cell hS cX; first | (go_simp; rfl) | go_simp
  simp only [List.setIfInBounds_toArray, List.set_cons_zero, List.set_cons_succ]
  refine lx_rd 6 ?vRa6 (by kernel_rfl) (fun _ _ d _ _ h => by cases d <;> exact h) (by kernel_rfl) HS rfl rfl rfl (fun w' hS => ?hRa6) ?_
  case hRa6 => first | (go_simp; rfl) | go_simp
  simp only [List.setIfInBounds_toArray, List.set_cons_zero, List.set_cons_succ]
  refine lx_rd 7 (.slice (some ⟨b, 0, none⟩) i ck) (by kernel_rfl) (fun _ _ d _ _ h => by cases d <;> exact h) (by kernel_rfl) HS rfl rfl rfl (fun w' hS => ?hRa7) ?_
  case hRa7 => first | (go_simp; rfl) | go_simp
  simp only [List.setIfInBounds_toArray, List.set_cons_zero, List.set_cons_succ]
  refine lx_rd 9 ?vRa9 (by kernel_rfl) (fun _ _ d _ _ h => by cases d <;> exact h) (by kernel_rfl) HS rfl rfl rfl (fun w' hS => ?hRa9) ?_
  case hRa9 => first | (go_simp; rfl) | go_simp
  simp only [List.setIfInBounds_toArray, List.set_cons_zero, List.set_cons_succ]
  refine lx_rd 10 ?vRa10 (by kernel_rfl) (fun _ _ d _ _ h => by cases d <;> exact h) (by kernel_rfl) HS rfl rfl rfl (fun w' hS => ?hRa10) ?_
  case hRa10 => first | (go_simp; rfl) | go_simp
  simp only [List.setIfInBounds_toArray, List.set_cons_zero, List.set_cons_succ]
  refine lx_rd 11 ?vRa11 (by kernel_rfl) (fun _ _ d _ _ h => by cases d <;> exact h) (by kernel_rfl) HS rfl rfl rfl (fun w' hS => ?hRa11) ?_
  case hRa11 => first | (go_simp; rfl) | go_simp
  simp only [List.setIfInBounds_toArray, List.set_cons_zero, List.set_cons_succ]
  refine lx_rd 12 (.slice (some ⟨b, 0, none⟩) L.length ck) (by kernel_rfl) (fun _ _ d _ _ h => by cases d <;> exact h) (by kernel_rfl) HS rfl rfl rfl (fun w' hS => ?hRa12) ?_
  case hRa12 => have q1 := below_cell hS cX; first | (go_simp; rfl) | go_simp
  simp only [List.setIfInBounds_toArray, List.set_cons_zero, List.set_cons_succ]
  refine lx_rd 13 ?vRa13 (by kernel_rfl) (fun _ _ d _ _ h => by cases d <;> exact h) (by kernel_rfl) HS rfl rfl rfl (fun w' hS => ?hRa13) ?_
  case hRa13 => first | (go_simp; rfl) | go_simp
  simp only [List.setIfInBounds_toArray, List.set_cons_zero, List.set_cons_succ]
  refine lx_rd 14 (.int .i64 ((i : Int) + 1)) (by kernel_rfl) (fun _ _ d _ _ h => by cases d <;> exact h) (by kernel_rfl) HS rfl rfl rfl (fun w' hS => ?hRa14) ?_
  case hRa14 => go_simp
  simp only [List.setIfInBounds_toArray, List.set_cons_zero, List.set_cons_succ]
  refine lx_rd 15 (.slice (some ⟨b, oa, none⟩) (L.length - (i + 1)) (ck - (i + 1))) (by kernel_rfl) (fun _ _ d _ _ h => by cases d <;> exact h) (by kernel_rfl) HS rfl rfl rfl (fun w' hS => ?hRa15) ?_
  case hRa15 => (go_simp; intro hh; exfalso; omega)
  simp only [List.setIfInBounds_toArray, List.set_cons_zero, List.set_cons_succ]
  obtain ⟨Ya, hYa⟩ : ∃ Y, Xa.alloc (.cells #[] 9) = Y := ⟨_, rfl⟩
  have bY : Below Xa.heap.size Xa Ya := by rw [← hYa]; exact (Below.refl _ _).alloc (Nat.le_refl _) _
  have oY : Ya.ownsRow Xa.heap.size 9 1 (.slice (some ⟨Xa.heap.size, 0, none⟩) 0 0) 0 [] := by rw [← hYa]; exact own_empty Xa 9
  refine lx_one 1 (by kernel_rfl) (stepT_val (w' := Ya) (.slice (some ⟨Xa.heap.size, 0, none⟩) 0 0) rfl rfl rfl ?b1a (fun _ => bY) ?_)
  case b1a => rw [← hYa]; first | (go_simp; rfl) | go_simp
  simp only [List.setIfInBounds_toArray, List.set_cons_zero, List.set_cons_succ]
  have lx0 : (sc (ks L)).length = L.length := by rw [rwX.1]; omega
  obtain ⟨v1, Za, hr1, ho1, hk1⟩ := run_appV 28 9 (.string ⟨#[]⟩) 16 Try.underlying28 infoStr (by decide) rfl 28 oY ⟨b, 0, none⟩ i ck ((sc (ks L)).take i) (by rw [List.length_take]; omega) (fun j u hu => below_cell bY (row_take rwX i j u hu)) (one_take (sc_one _) i) (by omega) bY.size
  have bZ : Below Xa.heap.size Xa Za := bY.trans (hk1.below bY.size (fun k e => own_new oY e))
  refine lx_one 8 (by kernel_rfl) (stepT_val (w' := Za) v1 rfl rfl rfl ?b2a (fun _ => bZ) ?_)
  case b2a => exact exec_app rfl rfl rfl hr1
  simp only [List.setIfInBounds_toArray, List.set_cons_zero, List.set_cons_succ]
  obtain ⟨v2, Va, hr2, ho2, hk2⟩ := run_appV 28 9 (.string ⟨#[]⟩) 16 Try.underlying28 infoStr (by decide) rfl 28 ho1 ⟨b, oa, none⟩ (L.length - (i + 1)) (ck - (i + 1)) ((sc (ks L)).drop (i + 1)) (by rw [List.length_drop]; omega) (fun j u hu => by
    rcases hva with e | e
    · rw [List.drop_of_length_le (by omega)] at hu; cases hu
    · subst e; exact below_cell bZ (row_drop rwX (i + 1) j u hu)) (one_drop (sc_one _) (i + 1)) (by omega) bZ.size
  have bV : Below Xa.heap.size Xa Va := bZ.trans (hk2.below bZ.size (fun k e => own_new ho1 e))
  refine lx_one 16 (by kernel_rfl) (stepT_val (w' := Va) v2 rfl rfl rfl ?b3a (fun _ => bV) ?_)
  case b3a => exact exec_app rfl rfl rfl hr2
  simp only [List.setIfInBounds_toArray, List.set_cons_zero, List.set_cons_succ]
  refine lx_one 17 (by kernel_rfl) (stepT_val (w' := Va) (.pointer (some ⟨r, 0, none⟩)) rfl rfl rfl ?b4a (fun _ => bV) ?_)
  case b4a => first | (go_simp; rfl) | go_simp
  simp only [List.setIfInBounds_toArray, List.set_cons_zero, List.set_cons_succ]
  refine lx_one 18 (by kernel_rfl) (stepT_val (w' := Va) (.pointer (some ⟨r, 0, none⟩)) rfl rfl rfl ?b5a (fun _ => bV) ?_)
  case b5a => first | (go_simp; rfl) | go_simp
  simp only [List.setIfInBounds_toArray, List.set_cons_zero, List.set_cons_succ]
  have elen : 0 + i + (L.length - (i + 1)) = L.length - 1 := by omega
  rw [elen, List.nil_append] at ho2
  obtain ⟨ga, ca, rfl, hga⟩ := own_sl ho2
  have hrlt : r < Xa.heap.size := (Array.getElem?_eq_some_iff.1 bXa).1
  have bVa := (bV.block r hrlt).trans bXa
  have cV : Va.cell? ⟨r, 0, none⟩ = some (.slice (some ⟨b, 0, none⟩) L.length ck) := by rw [cell_of_block bVa]; rfl
  have fV := unfrozen_of_block bVa 0
  refine lx_one 19 (by kernel_rfl) (stepT_store (w' := Va.setCell ⟨r, 0, none⟩ (sl ga (L.length - 1) ca)) rfl rfl rfl ?b6a (fun h => by cases h) ?_)
  case b6a => unfold sl; first | (go_simp; rfl) | go_simp
  refine lx_nil (by kernel_rfl) ?_
  have nega : ∀ k, ga = some k → k ≠ r := fun k e => by have := hga k e; omega
  have kWa : Keep (fun k => k = r) w (Va.setCell ⟨r, 0, none⟩ (sl ga (L.length - 1) ca)) := Keep.setCell (S := fun k => k = r) (p := ⟨r, 0, none⟩) ((k0a.mono fun _ h => h.elim).trans (Keep.ofBelow bV)) rfl _
  have kVa : Keep (fun k => k = r) Va (Va.setCell ⟨r, 0, none⟩ (sl ga (L.length - 1) ca)) := Keep.setCell (S := fun k => k = r) (p := ⟨r, 0, none⟩) (Keep.refl _ _) rfl _
  have oWa : (Va.setCell ⟨r, 0, none⟩ (sl ga (L.length - 1) ca)).ownsRow Xa.heap.size 9 1 (sl ga (L.length - 1) ca) (L.length - 1) ((sc (ks L)).take i ++ (sc (ks L)).drop (i + 1)) := own_keep ho2 kVa (fun k e => nega k ((sl_own _ _ _ k).1 e))
  have bWa := block_setCell (i := 0) bVa (sl ga (L.length - 1) ca)
  have hgwa : ∀ k, ga = some k → w.heap.size ≤ k := fun k e => Nat.le_trans k0a.size (hga k e)
  obtain ⟨Wa, hWa⟩ : ∃ W, Va.setCell ⟨r, 0, none⟩ (sl ga (L.length - 1) ca) = W := ⟨_, rfl⟩
  rw [hWa] at kWa oWa bWa ⊢
  clear hWa kVa ho2 hk2 hr2 ho1 hk1 hr1 bV bZ bY oY rwX cX cV fV bVa bXa hYa hs1 hs2 hs3 hiL hwr hoa hva lx0 elen nega HS hrlt k0a
  have blkb : Wa.heap[r]? = some (.cells #[sl ga (L.length - 1) ca, sl (some b2) L.length ce] 31 (0, 0)) := bWa
  have rowb : Wa.ownsRow 0 39 1 (sl (some b2) L.length ce) L.length (fc (es L)) := own_keep H.out.er kWa (fun k e er => by
    have e2 := (sl_own _ _ _ k).1 e
    obtain ⟨cur, hc⟩ := own_blk H.out.er e2
    rw [er, H.out.blk] at hc
    injection hc with hc
    injection hc with _ hc _
    exact absurd hc (by decide))
  clear blka rowa bWa
  go_upto_region 5 with fail
  refine wp_region_lx (fun w' => Below Wa.drew.heap.size Wa.drew w') [19] 20 (by kernel_rfl) (by kernel_rfl) ?_
  have k0b : Keep (fun _ => False) Wa Wa.drew := (Keep.refl _ _).drew
  obtain ⟨Xb, hXb⟩ : ∃ X, Wa.drew = X := ⟨_, rfl⟩
  rw [hXb] at k0b ⊢
  clear hXb
  have HS : Below Xb.heap.size Xb Xb := Below.refl _ _
  have bXb := (k0b.block r (Array.getElem?_eq_some_iff.1 blkb).1 (fun h => h)).trans blkb
  have rwX : Xb.ownsRow 0 39 1 (sl (some b2) L.length ce) L.length (fc (es L)) := own_keep rowb k0b (fun _ _ h => h)
  have cX : Xb.cell? ⟨r, 1, none⟩ = some (.slice (some ⟨b2, 0, none⟩) L.length ce) := by rw [cell_of_block bXb]; rfl
  have hs1 : (i : Int) ≤ (ce : Int) := by omega
  have hs2 : ((i : Int) + 1) ≤ (L.length : Int) := by omega
  have hs3 : (L.length : Int) ≤ (ce : Int) := by omega
  have hiL : (0 : Int) ≤ (i : Int) := by omega
  obtain ⟨ob, hob, hvb⟩ : ∃ o, (if ce = i + 1 then some (⟨b2, 0, none⟩ : Addr) else some ⟨b2, i + 1, none⟩) = some ⟨b2, o, none⟩ ∧ (L.length = i + 1 ∨ o = i + 1) := by
    by_cases e : ce = i + 1
    · exact ⟨0, by rw [if_pos e], .inl (by omega)⟩
    · exact ⟨i + 1, by rw [if_neg e], .inr rfl⟩
  have hwr : IntKind.i64.wrap ((i : Int) + 1) = (i : Int) + 1 := wi64' (by omega) (by omega) (by omega)
  refine lx_rd 0 ?vRb0 (by kernel_rfl) (fun _ _ d _ _ h => by cases d <;> exact h) (by kernel_rfl) HS rfl rfl rfl (fun w' hS => ?hRb0) ?_
  case hRb0 => first | (go_simp; rfl) | go_simp
  simp only [List.setIfInBounds_toArray, List.set_cons_zero, List.set_cons_succ]
  refine lx_rd 2 ?vRb2 (by kernel_rfl) (fun _ _ d _ _ h => by cases d <;> exact h) (by kernel_rfl) HS rfl rfl rfl (fun w' hS => ?hRb2) ?_
  case hRb2 => first | (go_simp; rfl) | go_simp
  simp only [List.setIfInBounds_toArray, List.set_cons_zero, List.set_cons_succ]
  refine lx_rd 3 ?vRb3 (by kernel_rfl) (fun _ _ d _ _ h => by cases d <;> exact h) (by kernel_rfl) HS rfl rfl rfl (fun w' hS => ?hRb3) ?_
  case hRb3 => first | (go_simp; rfl) | go_simp
  simp only [List.setIfInBounds_toArray, List.set_cons_zero, List.set_cons_succ]
  refine lx_rd 4 ?vRb4 (by kernel_rfl) (fun _ _ d _ _ h => by cases d <;> exact h) (by kernel_rfl) HS rfl rfl rfl (fun w' hS => ?hRb4) ?_
  case hRb4 => first | (go_simp; rfl) | go_simp
  simp only [List.setIfInBounds_toArray, List.set_cons_zero, List.set_cons_succ]
  refine lx_rd 5 (.slice (some ⟨b2, 0, none⟩) L.length ce) (by kernel_rfl) (fun _ _ d _ _ h => by cases d <;> exact h) (by kernel_rfl) HS rfl rfl rfl (fun w' hS => ?hRb5) ?_
  case hRb5 => have q1 := below_cell hS cX; first | (go_simp; rfl) | go_simp
  simp only [List.setIfInBounds_toArray, List.set_cons_zero, List.set_cons_succ]
  refine lx_rd 6 ?vRb6 (by kernel_rfl) (fun _ _ d _ _ h => by cases d <;> exact h) (by kernel_rfl) HS rfl rfl rfl (fun w' hS => ?hRb6) ?_
  case hRb6 => first | (go_simp; rfl) | go_simp
  simp only [List.setIfInBounds_toArray, List.set_cons_zero, List.set_cons_succ]
  refine lx_rd 7 (.slice (some ⟨b2, 0, none⟩) i ce) (by kernel_rfl) (fun _ _ d _ _ h => by cases d <;> exact h) (by kernel_rfl) HS rfl rfl rfl (fun w' hS => ?hRb7) ?_
  case hRb7 => first | (go_simp; rfl) | go_simp
  simp only [List.setIfInBounds_toArray, List.set_cons_zero, List.set_cons_succ]
  refine lx_rd 9 ?vRb9 (by kernel_rfl) (fun _ _ d _ _ h => by cases d <;> exact h) (by kernel_rfl) HS rfl rfl rfl (fun w' hS => ?hRb9) ?_
  case hRb9 => first | (go_simp; rfl) | go_simp
  simp only [List.setIfInBounds_toArray, List.set_cons_zero, List.set_cons_succ]
  refine lx_rd 10 ?vRb10 (by kernel_rfl) (fun _ _ d _ _ h => by cases d <;> exact h) (by kernel_rfl) HS rfl rfl rfl (fun w' hS => ?hRb10) ?_
  case hRb10 => first | (go_simp; rfl) | go_simp
  simp only [List.setIfInBounds_toArray, List.set_cons_zero, List.set_cons_succ]
  refine lx_rd 11 ?vRb11 (by kernel_rfl) (fun _ _ d _ _ h => by cases d <;> exact h) (by kernel_rfl) HS rfl rfl rfl (fun w' hS => ?hRb11) ?_
  case hRb11 => first | (go_simp; rfl) | go_simp
  simp only [List.setIfInBounds_toArray, List.set_cons_zero, List.set_cons_succ]
  refine lx_rd 12 (.slice (some ⟨b2, 0, none⟩) L.length ce) (by kernel_rfl) (fun _ _ d _ _ h => by cases d <;> exact h) (by kernel_rfl) HS rfl rfl rfl (fun w' hS => ?hRb12) ?_
  case hRb12 => have q1 := below_cell hS cX; first | (go_simp; rfl) | go_simp
  simp only [List.setIfInBounds_toArray, List.set_cons_zero, List.set_cons_succ]
  refine lx_rd 13 ?vRb13 (by kernel_rfl) (fun _ _ d _ _ h => by cases d <;> exact h) (by kernel_rfl) HS rfl rfl rfl (fun w' hS => ?hRb13) ?_
  case hRb13 => first | (go_simp; rfl) | go_simp
  simp only [List.setIfInBounds_toArray, List.set_cons_zero, List.set_cons_succ]
  refine lx_rd 14 (.int .i64 ((i : Int) + 1)) (by kernel_rfl) (fun _ _ d _ _ h => by cases d <;> exact h) (by kernel_rfl) HS rfl rfl rfl (fun w' hS => ?hRb14) ?_
  case hRb14 => go_simp
  simp only [List.setIfInBounds_toArray, List.set_cons_zero, List.set_cons_succ]
  refine lx_rd 15 (.slice (some ⟨b2, ob, none⟩) (L.length - (i + 1)) (ce - (i + 1))) (by kernel_rfl) (fun _ _ d _ _ h => by cases d <;> exact h) (by kernel_rfl) HS rfl rfl rfl (fun w' hS => ?hRb15) ?_
  case hRb15 => (go_simp; intro hh; exfalso; omega)
  simp only [List.setIfInBounds_toArray, List.set_cons_zero, List.set_cons_succ]
  obtain ⟨Yb, hYb⟩ : ∃ Y, Xb.alloc (.cells #[] 39) = Y := ⟨_, rfl⟩
  have bY : Below Xb.heap.size Xb Yb := by rw [← hYb]; exact (Below.refl _ _).alloc (Nat.le_refl _) _
  have oY : Yb.ownsRow Xb.heap.size 39 1 (.slice (some ⟨Xb.heap.size, 0, none⟩) 0 0) 0 [] := by rw [← hYb]; exact own_empty Xb 39
  refine lx_one 1 (by kernel_rfl) (stepT_val (w' := Yb) (.slice (some ⟨Xb.heap.size, 0, none⟩) 0 0) rfl rfl rfl ?b1b (fun _ => bY) ?_)
  case b1b => rw [← hYb]; first | (go_simp; rfl) | go_simp
  simp only [List.setIfInBounds_toArray, List.set_cons_zero, List.set_cons_succ]
  have lx0 : (fc (es L)).length = L.length := by rw [rwX.1]; omega
  obtain ⟨v1, Zb, hr1, ho1, hk1⟩ := run_appV 29 39 (.float .f64 0) 8 Try.underlying29 infoF (by decide) rfl 29 oY ⟨b2, 0, none⟩ i ce ((fc (es L)).take i) (by rw [List.length_take]; omega) (fun j u hu => below_cell bY (row_take rwX i j u hu)) (one_take (fc_one _) i) (by omega) bY.size
  have bZ : Below Xb.heap.size Xb Zb := bY.trans (hk1.below bY.size (fun k e => own_new oY e))
  refine lx_one 8 (by kernel_rfl) (stepT_val (w' := Zb) v1 rfl rfl rfl ?b2b (fun _ => bZ) ?_)
  case b2b => exact exec_app rfl rfl rfl hr1
  simp only [List.setIfInBounds_toArray, List.set_cons_zero, List.set_cons_succ]
  obtain ⟨v2, Vb, hr2, ho2, hk2⟩ := run_appV 29 39 (.float .f64 0) 8 Try.underlying29 infoF (by decide) rfl 29 ho1 ⟨b2, ob, none⟩ (L.length - (i + 1)) (ce - (i + 1)) ((fc (es L)).drop (i + 1)) (by rw [List.length_drop]; omega) (fun j u hu => by
    rcases hvb with e | e
    · rw [List.drop_of_length_le (by omega)] at hu; cases hu
    · subst e; exact below_cell bZ (row_drop rwX (i + 1) j u hu)) (one_drop (fc_one _) (i + 1)) (by omega) bZ.size
  have bV : Below Xb.heap.size Xb Vb := bZ.trans (hk2.below bZ.size (fun k e => own_new ho1 e))
  refine lx_one 16 (by kernel_rfl) (stepT_val (w' := Vb) v2 rfl rfl rfl ?b3b (fun _ => bV) ?_)
  case b3b => exact exec_app rfl rfl rfl hr2
  simp only [List.setIfInBounds_toArray, List.set_cons_zero, List.set_cons_succ]
  refine lx_one 17 (by kernel_rfl) (stepT_val (w' := Vb) (.pointer (some ⟨r, 0, none⟩)) rfl rfl rfl ?b4b (fun _ => bV) ?_)
  case b4b => first | (go_simp; rfl) | go_simp
  simp only [List.setIfInBounds_toArray, List.set_cons_zero, List.set_cons_succ]
  refine lx_one 18 (by kernel_rfl) (stepT_val (w' := Vb) (.pointer (some ⟨r, 1, none⟩)) rfl rfl rfl ?b5b (fun _ => bV) ?_)
  case b5b => first | (go_simp; rfl) | go_simp
  simp only [List.setIfInBounds_toArray, List.set_cons_zero, List.set_cons_succ]
  have elen : 0 + i + (L.length - (i + 1)) = L.length - 1 := by omega
  rw [elen, List.nil_append] at ho2
  obtain ⟨gb, cb, rfl, hgb⟩ := own_sl ho2
  have hrlt : r < Xb.heap.size := (Array.getElem?_eq_some_iff.1 bXb).1
  have bVb := (bV.block r hrlt).trans bXb
  have cV : Vb.cell? ⟨r, 1, none⟩ = some (.slice (some ⟨b2, 0, none⟩) L.length ce) := by rw [cell_of_block bVb]; rfl
  have fV := unfrozen_of_block bVb 1
  refine lx_one 19 (by kernel_rfl) (stepT_store (w' := Vb.setCell ⟨r, 1, none⟩ (sl gb (L.length - 1) cb)) rfl rfl rfl ?b6b (fun h => by cases h) ?_)
  case b6b => unfold sl; first | (go_simp; rfl) | go_simp
  refine lx_nil (by kernel_rfl) ?_
  have negb : ∀ k, gb = some k → k ≠ r := fun k e => by have := hgb k e; omega
  have kWb : Keep (fun k => k = r) Wa (Vb.setCell ⟨r, 1, none⟩ (sl gb (L.length - 1) cb)) := Keep.setCell (S := fun k => k = r) (p := ⟨r, 1, none⟩) ((k0b.mono fun _ h => h.elim).trans (Keep.ofBelow bV)) rfl _
  have kVb : Keep (fun k => k = r) Vb (Vb.setCell ⟨r, 1, none⟩ (sl gb (L.length - 1) cb)) := Keep.setCell (S := fun k => k = r) (p := ⟨r, 1, none⟩) (Keep.refl _ _) rfl _
  have oWb : (Vb.setCell ⟨r, 1, none⟩ (sl gb (L.length - 1) cb)).ownsRow Xb.heap.size 39 1 (sl gb (L.length - 1) cb) (L.length - 1) ((fc (es L)).take i ++ (fc (es L)).drop (i + 1)) := own_keep ho2 kVb (fun k e => negb k ((sl_own _ _ _ k).1 e))
  have bWb := block_setCell (i := 1) bVb (sl gb (L.length - 1) cb)
  have hgwb : ∀ k, gb = some k → Wa.heap.size ≤ k := fun k e => Nat.le_trans k0b.size (hgb k e)
  obtain ⟨Wb, hWb⟩ : ∃ W, Vb.setCell ⟨r, 1, none⟩ (sl gb (L.length - 1) cb) = W := ⟨_, rfl⟩
  rw [hWb] at kWb oWb bWb ⊢
  clear hWb kVb ho2 hk2 hr2 ho1 hk1 hr1 bV bZ bY oY rwX cX cV fV bVb bXb hYb hs1 hs2 hs3 hiL hwr hob hvb lx0 elen negb HS hrlt k0b
  have hwa : w.heap.size ≤ Wa.heap.size := kWa.size
  have hkb : Wb.ownsRow Xa.heap.size 9 1 (sl ga (L.length - 1) ca) (L.length - 1) ((sc (ks L)).take i ++ (sc (ks L)).drop (i + 1)) := own_keep oWa kWb (fun k e er => by
    have e2 := (sl_own _ _ _ k).1 e
    have h1 := hgwa k e2
    have h2 : r < w.heap.size := (Array.getElem?_eq_some_iff.1 H.out.blk).1
    omega)
  have len' : (L.take i ++ L.drop (i + 1)).length = L.length - 1 := by simp; omega
  have HRI : Hid (RDr w Wb r (drp L k)) := by
    show RDr w Wb r (drp L k)
    rw [HE.out]
    refine ⟨ga, ca, gb, cb, ⟨?_, ?_, ?_⟩, kWa.trans kWb, hgwa, fun k e => Nat.le_trans hwa (hgwb k e)⟩
    · rw [len']; exact bWb
    · rw [len']
      have := own_weak hkb (Nat.zero_le _)
      simpa [sc, ks, List.map_take, List.map_drop] using this
    · rw [len']
      have := own_weak oWb (Nat.zero_le _)
      simpa [fc, es, List.map_take, List.map_drop] using this
  clear hkb oWa oWb bWb blkb rowb kWa kWb H
  go_wp2
  go_ret
  exact ⟨rfl, HRI.out⟩

theorem rdrop_no {w : World} {r : Nat} {L : Le} {ak : Option Nat} {ck : Nat} {ae : Option Nat} {ce : Nat} (h : RI w r L ak ck ae ce) (k : ByteArray) (hl : L.length ≤ 1000) (hin : ∀ p ∈ L, p.1 ≠ k) :
    Calls Try.prog 27 #[.pointer (some ⟨r, 0, none⟩), .string k] w fun e w' => e = .returned (.bool false) ∧ w' = w := by
  have cA := at_any h k (by omega)
  have HIn : Hid (∀ p ∈ L, p.1 ≠ k) := hin
  clear h hin
  go_enter Try.func27, Try.ntmps27
  go_upto_region 2 with (go_at_call 40; refine cA.mono ?_; clear cA; rintro e w1 ⟨⟨z, rfl, hz⟩, hw⟩; rw [hw]; clear hw w1)
  obtain rfl : z = -1 := by
    rcases hz with ⟨e, _⟩ | ⟨i, hi, _, e⟩
    · exact e
    · exact absurd e (HIn.out _ (List.getElem_mem hi))
  go_wp2
  go_ret
  exact ⟨rfl, rfl⟩

end Go.Proofs.Ytfakcjelibdnbaa
