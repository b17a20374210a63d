/- Rows of ints: an argument's, and the law's copy; the struct Tail, opened. -/
import Derived.Test.YtimfidhehikaiaaDkY
namespace Go.Proofs.Ytimfidhehikaiaa
open Go.ChangeShapes Go.WideShapes Go.ChangeAt Go.RowKit

/-- What a slice of ints reads as. -/
structure IAr (W : World) (a : Option Addr) (n c : Nat) (zs : List Int) : Prop where
  len : zs.length = n
  cap : n ≤ c
  most : c ≤ 9223372036854775807
  nil : a = none → c = 0
  cells : ∀ ad, a = some ad → ∀ j, j < n → W.cell? (ad.add j) = some (.int .i64 (zs.getD j 0))
theorem IAr.carry {W W' : World} {a : Option Addr} {n c : Nat} {zs : List Int} (h : IAr W a n c zs) (hb : Below W.heap.size W W') : IAr W' a n c zs :=
  ⟨h.len, h.cap, h.most, h.nil, fun ad ha j hj => (hb.cell (World.block_lt_of_cell? W _ (h.cells ad ha j hj))).trans (h.cells ad ha j hj)⟩
theorem IAr.take {W : World} {a : Option Addr} {n c : Nat} {zs : List Int} (h : IAr W a n c zs) {k : Nat} (hk : k ≤ n) : IAr W a k c (zs.take k) :=
  ⟨by rw [List.length_take, h.len]; omega, by have := h.cap; omega, h.most, h.nil, fun ad ha j hj => by
    rw [h.cells ad ha j (by omega)]
    simp [List.getD, hj]⟩
theorem iar_nil (W : World) : IAr W none 0 0 [] := ⟨rfl, Nat.le_refl _, by omega, fun _ => rfl, fun _ h => by cases h⟩
theorem iar_of_cells {H : Type} {enc : TypeId × Value → H} {W : World} {v : Value} {n : Nat} {y : DataW H × List MemPlace}
    (h : DataW.trod enc Try.prog W 0 (fun _ => true) true n 32 [v] = some y) : ∃ a n c zs, v = .slice a n c ∧ IAr W a n c zs := by
  rcases open_ints Try.underlying32 Try.underlying3 (by kernel_rfl) h with ⟨hcs, _⟩ | ⟨x, l, cc, zs, hcs, _, hl, hm, hz, _, hcell, hwz⟩
  · simp only [List.cons.injEq, and_true] at hcs
    exact ⟨none, 0, 0, [], hcs, iar_nil W⟩
  · simp only [List.cons.injEq, and_true] at hcs
    have hz' : zs.length = cc := by simpa using hz
    refine ⟨some x, l, cc, zs.take l, hcs, by rw [List.length_take]; omega, hl, hm, (fun h => by cases h), fun ad had j hj => ?_⟩
    cases had
    rw [hcell j (by omega)]
    simp [List.getD, hj]

def ic (zs : List Int) : List Value := zs.map (Value.int .i64)
theorem Try.info3 : (Try.prog.info? 3).map (fun i => (i.zero, i.size, i.bytes)) = some (some (.int .i64 0), 1, 8) := by kernel_rfl
theorem ic_one (zs : List Int) : ∀ u ∈ ic zs, u.oneCell' = true := by
  intro u hu
  obtain ⟨x, _, rfl⟩ := List.mem_map.1 hu
  rfl

/-- 'append([]int{}, x...)', in the world that was there before the empty slice. -/
theorem wp_app0I {w : World} {ops : Array Oper} {rest : List Oper} {o : Oper} {a : Act} {Q : Exit → Act → World → Prop} (hgd : o.guard = none) (s x : Operand)
    (ho : o.op = .call { callee := .builtin .append, args := #[s, x], argTypes := #[32, 32] })
    (hs : a.eval s = .slice (some ⟨w.heap.size, 0, none⟩) 0 0)
    (ao : Option Addr) (m c : Nat) (zs : List Int) (hx : a.eval x = .slice ao m c) (hr : IAr w ao m c zs) (hb : m ≤ 1000000000)
    (h : ∀ v' w', w'.ownsRow w.heap.size 3 1 v' m (ic zs) → Below w.heap.size w w' → wpList Try.prog ops Q rest (a.put o.dst v') w') : wpList Try.prog ops Q (o :: rest) a (w.alloc (.cells #[] 3)) := by
  obtain ⟨i0, hi, hz0, hz1, hz2⟩ := info_parts Try.info3
  have hown : (w.alloc (.cells #[] 3)).ownsRow w.heap.size 3 1 (.slice (some ⟨w.heap.size, 0, none⟩) 0 0) 0 [] := World.ownsRow_made w #[] 0 (Nat.le_refl _) (by unfold maxLen; omega) rfl
  have hbel : Below w.heap.size w (w.alloc (.cells #[] 3)) := (Below.refl _ _).alloc (Nat.le_refl _) _
  cases ao with
  | none =>
    have hc0 := hr.nil rfl
    have hcm := hr.cap
    obtain rfl : c = 0 := hc0
    obtain rfl : m = 0 := by omega
    have hzs : zs = [] := List.eq_nil_of_length_eq_zero hr.len
    subst hzs
    refine wpList_append_own_none hgd s x 32 ho w.heap.size 3 i0 1 Try.underlying32 hi _ 0 [] hs hown hx ?_
    exact h _ _ hown hbel
  | some ad =>
    refine wpList_append_own (w.alloc (.cells #[] 3)) hgd s x 32 ho w.heap.size 3 i0 (.int .i64 0) 1 8 Try.underlying32 hi hz0 hz1 hz2 rfl (by decide) _ 0 [] hs hown ad m c (ic zs) hx (by simp [ic, hr.len]) (fun j u hu => ?_) (ic_one zs) (by unfold maxLen; omega) (by omega) (by simp) ?_
    · have hj : j < m := by
        have := (List.getElem?_eq_some_iff.1 hu).1
        simp [ic, hr.len] at this
        exact this
      have hjz : j < zs.length := by rw [hr.len]; exact hj
      have := (hr.carry hbel).cells ad rfl j hj
      rw [this]
      simp only [ic, List.getElem?_map, List.getElem?_eq_getElem hjz, Option.map_some] at hu
      rw [← hu]
      simp [List.getD, hjz]
    · intro v' w' k1 k2 _
      simp only [Nat.zero_add, List.nil_append] at k1
      exact h v' w' k1 (hbel.grown k2 (by simp) (fun k hk => by cases hk; exact Nat.le_refl _))

/-- What the law copies of ints. -/
theorem ints_any (a : Option Addr) (n c : Nat) (zs : List Int) (w : World) (hR : IAr w a n c zs) :
    Calls Try.prog 17 #[.slice a n c] w fun e w' => ∃ v g, e = .returned v ∧ IRd w' g v (zs.take 30) ∧ w.heap.size ≤ g ∧ Below w.heap.size w w' := by
  have hcp := hR.cap
  have hmx := hR.most
  have fin : ∀ v w' k, (zs.take 30).length = k → w'.ownsRow w.heap.size 3 1 v k (ic (zs.take 30)) → ∃ g, IRd w' g v (zs.take 30) ∧ w.heap.size ≤ g := fun v w' k hl ho => by
    rcases ho.2 with ⟨rfl, h0⟩ | ⟨g, cap, cur, rfl, hg, hb, hnc, hcm, hcs, htk⟩
    · subst h0
      exact ⟨w.heap.size, ⟨none, 0, by rw [hl], by omega, by omega, fun h => absurd (List.eq_nil_of_length_eq_zero hl) h⟩, Nat.le_refl _⟩
    · refine ⟨g, ⟨_, cap, by rw [hl], by omega, by unfold maxLen at hcm; omega, fun _ => ⟨0, rfl, fun j hj => ?_⟩⟩, hg⟩
      have := ho.cells (g := g) rfl j (.int .i64 ((zs.take 30).getD j 0)) (by rw [ic, List.getElem?_map, List.getD_eq_getElem?_getD, List.getElem?_eq_getElem hj]; rfl)
      rw [add_flat] at this
      exact this
  by_cases hn : (30 : Int) < (n : Int)
  · have hl : (zs.take 30).length = 30 := by rw [List.length_take, hR.len]; omega
    have HL : Hid ((zs.take 30).length = 30) := hl
    clear hl
    go_enter Try.func17, Try.ntmps17
    go_wp2_with (at_builtin; refine wp_app0I rfl _ _ rfl rfl a 30 c (zs.take 30) rfl (hR.take (by omega)) (by omega) ?_; intro v' w1 hown1 hb1)
    go_ret
    obtain ⟨g, h1, h2⟩ := fin _ _ _ HL.out hown1
    first | exact ⟨_, g, rfl, h1, h2, hb1⟩ | exact ⟨_, rfl, g, h1, h2, hb1⟩ | exact ⟨_, rfl, ⟨g, h1, h2⟩, hb1⟩
  · have ht : zs.take 30 = zs := List.take_of_length_le (by rw [hR.len]; omega)
    have hl : (zs.take 30).length = n := by rw [ht, hR.len]
    have HT : Hid (zs.take 30 = zs) := ht
    have HL : Hid ((zs.take 30).length = n) := hl
    clear ht hl
    go_enter Try.func17, Try.ntmps17
    go_wp2_with (at_builtin; refine wp_app0I rfl _ _ rfl rfl a n c zs rfl hR (by omega) ?_; intro v' w1 hown1 hb1)
    go_ret
    obtain ⟨g, h1, h2⟩ := fin _ _ _ HL.out (by rw [HT.out]; exact hown1)
    first | exact ⟨_, g, rfl, h1, h2, hb1⟩ | exact ⟨_, rfl, g, h1, h2, hb1⟩ | exact ⟨_, rfl, ⟨g, h1, h2⟩, hb1⟩

theorem cellsTail : Try.prog.cellsOf 42 = 4 := by kernel_rfl
theorem cellsBytes : Try.prog.cellsOf 31 = 1 := by kernel_rfl
theorem cellsInt : Try.prog.cellsOf 3 = 1 := by kernel_rfl
theorem cellsRows : Try.prog.cellsOf 40 = 1 := by kernel_rfl
theorem cellsInts : Try.prog.cellsOf 32 = 1 := by kernel_rfl
theorem arr4 {α : Type} {cs : Array α} (h : cs.size = 4) : ∃ c0 c1 c2 c3, cs = #[c0, c1, c2, c3] := by
  obtain ⟨l⟩ := cs
  match l, h with
  | [c0, c1, c2, c3], _ => exact ⟨c0, c1, c2, c3, rfl⟩
set_option maxRecDepth 100000 in
theorem open_tail {H : Type} {enc : TypeId × Value → H} {W : World} {b0 : Nat} {v : Value} {d : DataW H} {p : List MemPlace}
    (hv : Value.okWide Try.prog W .any b0 42 v) (h : DataW.Trod enc Try.prog W 0 (fun _ => true) true 42 v d p) :
    ∃ (a : Option Addr) (n c : Nat) (xs : List Int) (b : Option Addr) (m e : Nat) (ys : List (List Int)) (fu : Int) (f : Option Addr) (p q : Nat) (zs : List Int), v = .agg #[.slice a n c, .slice b m e, .int .i64 fu, .slice f p q] ∧ Rd W a n c xs ∧ RRd W b m ys ∧ IAr W f p q zs := by
  obtain ⟨cs, rfl, hsz⟩ := okWide_struct Try.underlying42 hv
  obtain ⟨c0, c1, c2, c3, rfl⟩ := arr4 (hsz.trans cellsTail)
  obtain ⟨fuel, hf⟩ := h
  obtain ⟨ys, n, _, hx, hl, hlen, hfs⟩ := DataW.trod_struct Try.underlying42 hf
  match ys, hlen with
  | [y0, y1, y2, y3], _ =>
    have f0 : DataW.trod enc Try.prog W 0 (fun _ => true) true n 31 [c0] = some y0 := by simpa [Value.cells, cellsBytes] using hfs 0 _ rfl
    have f1 : DataW.trod enc Try.prog W 0 (fun _ => true) true n 40 [c1] = some y1 := by simpa [Value.cells, cellsRows] using hfs 1 _ rfl
    have f2 : DataW.trod enc Try.prog W 0 (fun _ => true) true n 3 [c2] = some y2 := by simpa [Value.cells, cellsInt] using hfs 2 _ rfl
    have f3 : DataW.trod enc Try.prog W 0 (fun _ => true) true n 32 [c3] = some y3 := by simpa [Value.cells, cellsInts] using hfs 3 _ rfl
    obtain ⟨I, e2, _, w2⟩ := DataW.trod_int Try.underlying3 f2
    simp only [List.cons.injEq, and_true] at e2
    subst e2
    obtain ⟨a, l, c, zs, rfl, hR⟩ := rd_of_cells f0
    obtain ⟨b, m, e, ys, rfl, hM⟩ := rrd_of_cells f1
    obtain ⟨f, p, q, us, rfl, hI⟩ := iar_of_cells f3
    exact ⟨a, l, c, zs, b, m, e, ys, I, f, p, q, us, rfl, hR, hM, hI⟩

end Go.Proofs.Ytimfidhehikaiaa
