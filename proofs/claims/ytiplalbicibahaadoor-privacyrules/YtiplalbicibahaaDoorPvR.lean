/- privacy: the document's Parse (pvr_gen.py writes this). -/
import Derived.Test.YtiplalbicibahaaDoorPvE
import Derived.Test.YtiplalbicibahaaDoorNmRefL
import Derived.Deep.Cut
import Derived.Deep.CutRange
set_option maxRecDepth 100000
namespace Go.Proofs.YtiplalbicibahaaDoor
open Go.RowKit Go.Joins

theorem qidx (s : ByteArray) (k : Nat) (w : World) (h : k < s.size) : (Instr.index 9 (.string s) (.int .i64 k)).run Tryd.prog w = .ok (.int .u8 ((s.data[k]'h).toNat)) w := by
  rw [run_index_string w 9 s .i64 (k : Int) Tryd.underlying9, dif_pos ⟨by omega, by omega⟩]
  rfl

/-! ### a piece -/
theorem qix_skip {c : UInt8} {l : By} {k : Nat} (hk : k < l.length) (h : ∀ j, j < k → l.getD j 0 ≠ c) (hc : l[k] = c) : Nm.ix c l = k := by
  unfold Nm.ix
  rw [List.findIdx_eq hk]
  refine ⟨by simp [hc], fun j hj => ?_⟩
  have := h j hj
  rw [List.getD, List.getElem?_eq_getElem (by omega)] at this
  simpa using this
theorem qix_none {c : UInt8} {l : By} (h : ∀ j, j < l.length → l.getD j 0 ≠ c) : Nm.ix c l = l.length := by
  unfold Nm.ix
  rw [List.findIdx_eq_length]
  intro x hx
  obtain ⟨j, hj, rfl⟩ := List.getElem_of_mem hx
  have := h j hj
  rw [List.getD, List.getElem?_eq_getElem hj] at this
  simpa using this

def pcv (l : By) : Value := .tuple #[.string (ba (Nm.cutA 32 l)), .string (ba (Nm.cutZ 32 l)), .bool (Nm.hasB 32 l)]
theorem ba_ext (l : By) (i j : Nat) : (ba l).extract i j = ba ((l.take j).drop i) := by
  apply ByteArray.ext
  simp [ba, ByteArray.data_extract, List.extract_toArray, List.drop_take]
set_option maxHeartbeats 1600000 in
theorem piece_any (l : By) (w : World) (hs : l.length ≤ 281474976710656) : Calls Tryd.prog 19 #[.string (ba l)] w fun e w' => e = .returned (pcv l) ∧ Below w.heap.size w w' := by
  have hz := ba_size l
  have hlen : l.length = (ba l).size := hz.symm
  obtain ⟨R, hR⟩ : ∃ R, pcv l = R := ⟨_, rfl⟩
  rw [hR]
  obtain ⟨s, hsb⟩ : ∃ s, ba l = s := ⟨_, rfl⟩
  have hd : s.data = l.toArray := by rw [← hsb]; rfl
  have hx := fun i j => ba_ext l i j
  rw [hsb] at hz hlen hx ⊢
  replace hx : Hid _ := hx
  rw [hlen] at hs
  clear hz
  replace hlen : Hid _ := hlen
  replace hR : Hid _ := hR
  go_enter Tryd.func19, Tryd.ntmps19
  go_wp2
  go_loop [5] (fun i => ∃ k : Nat, k ≤ s.size ∧ i = .int .i64 k ∧ Hid (∀ j, j < k → l.getD j 0 ≠ 32)) (fun i => s.size - (intOf i).toNat)
  case atStart => exact ⟨0, by omega, rfl, fun j hj => by omega⟩
  case round =>
    obtain ⟨k, hk, rfl, HN⟩ := hrel
    by_cases hp : k < s.size
    · have hpz : (k : Int) < (s.size : Int) := by omega
      have hix := fun w => qidx s k w hp
      have hget : l[k]'(by have := hlen.out; omega) = s.data[k]'hp := by simp [hd]
      obtain ⟨b, hb⟩ : ∃ b, s.data[k]'hp = b := ⟨_, rfl⟩
      rw [hb] at hix hget
      clear hb
      by_cases hbc : b = 32
      · have hb2 : ((b.toNat : Int) == 32) = true := by rw [hbc]; rfl
        have e := qix_skip (by have := hlen.out; omega) HN.out (hget.trans hbc)
        have x1 : s.extract 0 k = ba (Nm.cutA 32 l) := by rw [hx.out]; unfold Nm.cutA; rw [e]; rfl
        have x2 : s.extract (k + 1) s.size = ba (Nm.cutZ 32 l) := by rw [hx.out]; unfold Nm.cutZ; rw [e, ← hlen.out, List.take_length]
        have x3 : Nm.hasB 32 l = true := by unfold Nm.hasB; rw [e]; have := hlen.out; simp; omega
        have hRR : Hid (R = .tuple #[.string (ba (Nm.cutA 32 l)), .string (ba (Nm.cutZ 32 l)), .bool true]) := by show R = _; rw [← hR.out, ← x3]; rfl
        generalize ba (Nm.cutA 32 l) = A at x1 hRR
        generalize ba (Nm.cutZ 32 l) = Z at x2 hRR
        have k1 : (0 : Int) ≤ (k : Int) := by omega
        have k2 : (k : Int) ≤ (s.size : Int) := by omega
        have k3 : (0 : Int) ≤ (k : Int) + 1 := by omega
        have k4 : (k : Int) + 1 ≤ (s.size : Int) := by omega
        clear e x3 hx hd hlen hget
        go_wp2
        go_region
        go_wp2
        go_ret3
        rw [hRR.out]
        exact ⟨rfl, (Below.refl _ _).drew⟩
      · have hne : (b.toNat : Int) ≠ 32 := fun h => hbc (UInt8.toNat_inj.1 (by exact_mod_cast h))
        have hb2 : ((b.toNat : Int) == 32) = false := by simpa using hne
        go_wp2
        refine ⟨⟨k + 1, by omega, by simp, fun j hj => ?_⟩, by simp [intOf]; omega⟩
        by_cases hjk : j = k
        · subst hjk
          rw [List.getD, List.getElem?_eq_getElem (by have := hlen.out; omega), Option.getD_some, hget]
          exact hbc
        · exact HN.out j (by omega)
    · have hkn : k = s.size := by omega
      have hpz : (s.size : Int) ≤ (k : Int) := by omega
      have e := qix_none (c := 32) (l := l) (fun j hj => HN.out j (by have := hlen.out; omega))
      have hRR : Hid (R = .tuple #[.string s, .string ⟨#[]⟩, .bool false]) := by
        show R = _
        rw [← hR.out, ← hsb]
        unfold pcv Nm.cutA Nm.cutZ Nm.hasB
        rw [e, List.take_length, List.drop_eq_nil_of_le (by have := hlen.out; omega), decide_eq_false (by omega)]
        rfl
      clear e hx hd hlen
      go_wp2
      go_ret3
      rw [hRR.out]
      exact ⟨rfl, Below.refl _ _⟩

/-! ### a word, a sub -/
theorem qSub_any (s : ByteArray) (w : World) : Calls Tryd.prog 22 #[.string s] w fun e w' => e = .returned (.bool (isSubB s.data.toList)) ∧ w' = w := by
  unfold isSubB wNone wTo wFrom wBoth
  rw [← Lib.toList_data]
  generalize h1 : (s.toList == [110, 111, 110, 101]) = b1
  generalize h2 : (s.toList == [116, 111]) = b2
  generalize h3 : (s.toList == [102, 114, 111, 109]) = b3
  generalize h4 : (s.toList == [98, 111, 116, 104]) = b4
  cases b1 <;> cases b2 <;> cases b3 <;> cases b4
  all_goals
    go_enter Tryd.func22, Tryd.ntmps22
    go_wp2
    go_ret
    exact ⟨rfl, rfl⟩
theorem qWord_any (s : ByteArray) (w : World) (hs : s.size ≤ 281474976710656) : Calls Tryd.prog 21 #[.string s] w fun e w' => e = .returned (.int .i64 (nameE s.data.toList : Nat)) ∧ w' = w := by
  have hl : s.data.toList.length = s.size := by simp
  unfold nameE
  rw [hl]
  by_cases h1 : 64 < s.size
  · rw [if_pos h1]
    have hd : (64 : Int) < (s.size : Int) := by omega
    go_enter Tryd.func21, Tryd.ntmps21
    go_wp2
    go_ret
    exact ⟨rfl, rfl⟩
  · rw [if_neg h1]
    have hd : ¬ (64 : Int) < (s.size : Int) := by omega
    have cV := Nm.refValid_any s w (by omega)
    rw [Nm.vld_nums] at cV
    have he : s.toList.isEmpty = decide (s.data.toList = []) := by
      rw [Lib.toList_data]; cases s.data.toList <;> rfl
    by_cases h2 : s.data.toList = []
    · rw [if_pos (Or.inl h2)]
      have hd2 : s.toList.isEmpty = true := by rw [he]; simp [h2]
      clear he h2 cV
      go_enter Tryd.func21, Tryd.ntmps21
      go_wp2
      go_ret
      exact ⟨rfl, rfl⟩
    · have hd2 : s.toList.isEmpty = false := by rw [he]; simp [h2]
      generalize Lib.validD s.data.toList = V at cV ⊢
      have hI : (if s.data.toList = [] ∨ V = false then (4 : Nat) else 0) = if V = true then 0 else 4 := by cases V <;> simp [h2]
      rw [hI]
      clear he h2 hI hl h1
      cases V with
      | true =>
        go_enter Tryd.func21, Tryd.ntmps21
        go_wp2_with (go_at_call 38; refine cV.mono ?_; rintro e w1 ⟨rfl, hw1⟩; replace hw1 := hw1.symm; subst hw1)
        go_ret
        exact ⟨rfl, rfl⟩
      | false =>
        go_enter Tryd.func21, Tryd.ntmps21
        go_wp2_with (go_at_call 38; refine cV.mono ?_; rintro e w1 ⟨rfl, hw1⟩; replace hw1 := hw1.symm; subst hw1)
        go_ret
        exact ⟨rfl, rfl⟩

/-! ### what the document's Parse tells -/
def byR (al i o h : Bool) (A Z : By) : Rul × Nat :=
  if (A == wAll && !h) = true then (⟨al, i, o, A, Z⟩, 0)
  else if (A == wJid && h) = true then (if (Nm.localN Z).2 = 0 then (⟨al, i, o, A, (Nm.localN Z).1⟩, 0) else (r0, (Nm.localN Z).2))
  else if (A == wGroup && h) = true then (if nameE Z = 0 then (⟨al, i, o, A, Z⟩, 0) else (r0, nameE Z))
  else if (A == wSub && (h && isSubB Z)) = true then (⟨al, i, o, A, Z⟩, 0) else (r0, 2)
def badR (h1 h2 b1 b2 c1 c2 c3 : Bool) : Bool := !(h1 && (h2 && ((b1 || b2) && (c1 || (c2 || c3)))))
def parseQ (l : By) : Rul × Nat :=
  if badR (Nm.hasB 32 l) (Nm.hasB 32 (Nm.cutZ 32 l)) (Nm.cutA 32 l == wAllow) (Nm.cutA 32 l == wDeny) (Nm.cutA 32 (Nm.cutZ 32 l) == wIn) (Nm.cutA 32 (Nm.cutZ 32 l) == wOut) (Nm.cutA 32 (Nm.cutZ 32 l) == wBoth) = true then (r0, 2)
  else byR (Nm.cutA 32 l == wAllow) (!(Nm.cutA 32 (Nm.cutZ 32 l) == wOut)) (!(Nm.cutA 32 (Nm.cutZ 32 l) == wIn)) (Nm.hasB 32 (Nm.cutZ 32 (Nm.cutZ 32 l))) (Nm.cutA 32 (Nm.cutZ 32 (Nm.cutZ 32 l))) (Nm.cutZ 32 (Nm.cutZ 32 (Nm.cutZ 32 l)))
theorem no_blank {m : By} (h : Nm.hasB 32 m = false) : Nm.cutA 32 m = m ∧ Nm.cutZ 32 m = [] := by
  unfold Nm.hasB at h
  have h' := of_decide_eq_false h
  constructor
  · unfold Nm.cutA; exact List.take_of_length_le (by omega)
  · unfold Nm.cutZ; exact List.drop_eq_nil_of_le (by omega)
theorem byR_whom (al i o : Bool) (m : By) : byR al i o (Nm.hasB 32 m) (Nm.cutA 32 m) (Nm.cutZ 32 m) = if (whomR m).2.2 = 0 then (⟨al, i, o, (whomR m).1, (whomR m).2.1⟩, 0) else (r0, (whomR m).2.2) := by
  unfold whomR
  by_cases hm : (m == wAll) = true
  · rw [if_pos hm]
    have e : m = wAll := by simpa using hm
    subst e
    rfl
  · rw [if_neg hm]
    cases hh : Nm.hasB 32 m with
    | false =>
      obtain ⟨e1, e2⟩ := no_blank hh
      rw [e1, e2]
      unfold byR
      simp [hm]
    | true =>
      rw [if_pos rfl]
      generalize Nm.cutA 32 m = A
      generalize Nm.cutZ 32 m = Z
      unfold byR valueR
      simp only [Bool.not_true, Bool.and_false, Bool.false_eq_true, if_false, Bool.and_true, Bool.true_and]
      cases hj : A == wJid with
      | true =>
        simp only [if_true]
        by_cases h0 : (Nm.localN Z).2 = 0
        · simp [h0]
        · simp [h0]
      | false =>
        simp only [Bool.false_eq_true, if_false]
        cases hg : A == wGroup with
        | true =>
          simp only [if_true]
          by_cases h0 : nameE Z = 0
          · simp [h0]
          · simp [h0]
        | false =>
          simp only [Bool.false_eq_true, if_false]
          cases A == wSub && isSubB Z <;> simp
theorem ways_x (A : By) (h : (A == wIn || (A == wOut || A == wBoth)) = true) : (A == wIn || A == wBoth) = !(A == wOut) ∧ (A == wOut || A == wBoth) = !(A == wIn) := by
  simp only [Bool.or_eq_true, beq_iff_eq] at h
  rcases h with rfl | rfl | rfl <;> exact ⟨rfl, rfl⟩
theorem parse_same (l : By) : parseR l = parseQ l := by
  unfold parseR parseQ verdictR
  generalize Nm.cutZ 32 l = Z1
  generalize Nm.cutA 32 l = A1
  cases Nm.hasB 32 l with
  | false => rfl
  | true =>
    rw [if_pos rfl]
    cases hb : (A1 == wAllow || A1 == wDeny) with
    | false =>
      unfold badR
      rw [hb]
      cases Nm.hasB 32 Z1 <;> rfl
    | true =>
      unfold waysR badR
      rw [if_pos rfl, hb]
      dsimp only
      rw [if_pos rfl]
      cases Nm.hasB 32 Z1 with
      | false => rfl
      | true =>
        rw [if_pos rfl]
        generalize hA : Nm.cutA 32 Z1 = A2
        generalize Nm.cutZ 32 Z1 = Z2
        have hc : ((A2 == wIn || A2 == wBoth) || (A2 == wOut || A2 == wBoth)) = (A2 == wIn || (A2 == wOut || A2 == wBoth)) := by
          cases A2 == wIn <;> cases A2 == wOut <;> cases A2 == wBoth <;> rfl
        rw [hc]
        cases hw : (A2 == wIn || (A2 == wOut || A2 == wBoth)) with
        | false => rfl
        | true =>
          obtain ⟨x1, x2⟩ := ways_x A2 hw
          rw [if_pos rfl]
          dsimp only
          rw [if_pos rfl, byR_whom, x1, x2]
          rfl

/-! ### Parse -/
/-- The answer's rule, an empty one, and the one that is made. -/
structure R3 (w W : World) (g : Nat) (r : Rul) : Prop where
  a : RuAt W w.heap.size r0
  b : RuAt W (w.heap.size + 1) r0
  c : RuAt W g r
  hg : w.heap.size + 1 < g
  k : Below w.heap.size w W
section
variable {w W W' : World} {g : Nat} {r : Rul}
theorem R3.bel (h : R3 w W g r) (hb : Below W.heap.size W W') : R3 w W' g r := ⟨h.a.carry hb, h.b.carry hb, h.c.carry hb, h.hg, h.k.trans (hb.mono h.k.size)⟩
theorem R3.val (h : R3 w W g r) (v : By) : R3 w (W.setCell ⟨g, 4, none⟩ (.string (ba v))) g ⟨r.al, r.i, r.o, r.k, v⟩ := by
  have hg := h.hg
  have hk := setK W g 4 (.string (ba v))
  exact ⟨box_keep h.a hk (by omega), box_keep h.b hk (by omega), block_setCell (i := 4) h.c (.string (ba v)), hg, h.k.trans (hk.below h.k.size (fun j e => by omega))⟩
theorem R3.fin (h : R3 w W g r) (q : Rul) : RuAt (W.setRow w.heap.size (rc q)) w.heap.size q ∧ Below w.heap.size w (W.setRow w.heap.size (rc q)) :=
  ⟨RuAt.set h.a q, h.k.trans ((rowK W w.heap.size (rc q)).below (by have := h.a.lt; have := h.k.size; omega) (fun j e => by omega))⟩
end
def oR : Obj := .cells (rc r0) 23
def qpv (p : Rul × Nat) : Value := .tuple #[rv p.1, .int .i64 p.2]
set_option maxHeartbeats 3200000 in
theorem qparse_any (l : By) (w : World) (hs : l.length ≤ 281474976710656) : Calls Tryd.prog 8 #[.string (ba l)] w fun e w' => e = .returned (prv l) ∧ Below w.heap.size w w' := by
  unfold prv
  rw [parse_same]
  show Calls _ _ _ _ fun e w' => e = .returned (qpv (parseQ l)) ∧ _
  have z1 : (Nm.cutZ 32 l).length ≤ 281474976710656 := by unfold Nm.cutZ; rw [List.length_drop]; omega
  have z2 : (Nm.cutZ 32 (Nm.cutZ 32 l)).length ≤ 281474976710656 := by generalize Nm.cutZ 32 l = Z at *; unfold Nm.cutZ; rw [List.length_drop]; omega
  have z3 : (Nm.cutZ 32 (Nm.cutZ 32 (Nm.cutZ 32 l))).length ≤ 281474976710656 := by generalize Nm.cutZ 32 (Nm.cutZ 32 l) = Z at *; unfold Nm.cutZ; rw [List.length_drop]; omega
  have c1 := fun w => piece_any l w hs
  have c2 := fun w => piece_any _ w z1
  have c3 := fun w => piece_any _ w z2
  unfold pcv at c1 c2 c3
  unfold parseQ
  generalize Nm.cutZ 32 (Nm.cutZ 32 (Nm.cutZ 32 l)) = Z3 at *
  generalize Nm.cutA 32 (Nm.cutZ 32 (Nm.cutZ 32 l)) = A3 at *
  generalize Nm.hasB 32 (Nm.cutZ 32 (Nm.cutZ 32 l)) = h3 at *
  generalize Nm.cutZ 32 (Nm.cutZ 32 l) = Z2 at *
  generalize Nm.cutA 32 (Nm.cutZ 32 l) = A2 at *
  generalize Nm.hasB 32 (Nm.cutZ 32 l) = h2 at *
  generalize Nm.cutZ 32 l = Z1 at *
  generalize Nm.cutA 32 l = A1 at *
  generalize Nm.hasB 32 l = h1 at *
  have e1 : ((ba A1).toList == [97, 108, 108, 111, 119]) = (A1 == wAllow) := ba_eq _ _
  have e2 : ((ba A1).toList == [100, 101, 110, 121]) = (A1 == wDeny) := ba_eq _ _
  have f1 : ((ba A2).toList == [105, 110]) = (A2 == wIn) := ba_eq _ _
  have f2 : ((ba A2).toList == [111, 117, 116]) = (A2 == wOut) := ba_eq _ _
  have f3 : ((ba A2).toList == [98, 111, 116, 104]) = (A2 == wBoth) := ba_eq _ _
  have g1 : ((ba A3).toList == [97, 108, 108]) = (A3 == wAll) := ba_eq _ _
  have g2 : ((ba A3).toList == [106, 105, 100]) = (A3 == wJid) := ba_eq _ _
  have g3 : ((ba A3).toList == [103, 114, 111, 117, 112]) = (A3 == wGroup) := ba_eq _ _
  have g4 : ((ba A3).toList == [115, 117, 98]) = (A3 == wSub) := ba_eq _ _
  have cL := fun w => Nm.refLocal_any (ba Z3) w (by rw [ba_size]; omega)
  have cW := fun w => qWord_any (ba Z3) w (by rw [ba_size]; exact z3)
  have cS := fun w => qSub_any (ba Z3) w
  rw [ba_list] at cL cW cS
  clear z1 z2 z3 hs
  unfold byR
  generalize (A1 == wAllow) = b1 at *
  generalize (A1 == wDeny) = b2 at *
  generalize (A2 == wIn) = k1 at *
  generalize (A2 == wOut) = k2 at *
  generalize (A2 == wBoth) = k3 at *
  generalize (A3 == wAll) = a1 at *
  generalize (A3 == wJid) = a2 at *
  generalize (A3 == wGroup) = a3 at *
  generalize (A3 == wSub) = a4 at *
  generalize Nm.localN Z3 = p at *
  obtain ⟨v, n⟩ := p
  dsimp only at cL ⊢
  generalize nameE Z3 = m at *
  generalize isSubB Z3 = z at *
  obtain ⟨bad, hbad⟩ : ∃ bad, Hid (badR h1 h2 b1 b2 k1 k2 k3 = bad) := ⟨_, rfl⟩
  rw [hbad.out]
  obtain ⟨RR, HRR⟩ : ∃ RR, Hid (qpv (if bad = true then (r0, 2) else if (a1 && !h3) = true then (⟨b1, !k2, !k1, A3, Z3⟩, 0) else if (a2 && h3) = true then (if n = 0 then (⟨b1, !k2, !k1, A3, v⟩, 0) else (r0, n)) else if (a3 && h3) = true then (if m = 0 then (⟨b1, !k2, !k1, A3, Z3⟩, 0) else (r0, m)) else if (a4 && (h3 && z)) = true then (⟨b1, !k2, !k1, A3, Z3⟩, 0) else (r0, 2)) = RR) := ⟨_, rfl⟩
  rw [HRR.out]
  have HX : Hid (RuAt ((w.alloc (Obj.cells #[Value.bool false, Value.bool false, Value.bool false, Value.string { data := #[] }, Value.string { data := #[] }] 23)).alloc (Obj.cells #[Value.bool false, Value.bool false, Value.bool false, Value.string { data := #[] }, Value.string { data := #[] }] 23)) w.heap.size r0 ∧ RuAt ((w.alloc (Obj.cells #[Value.bool false, Value.bool false, Value.bool false, Value.string { data := #[] }, Value.string { data := #[] }] 23)).alloc (Obj.cells #[Value.bool false, Value.bool false, Value.bool false, Value.string { data := #[] }, Value.string { data := #[] }] 23)) (w.heap.size + 1) r0 ∧ Below w.heap.size w ((w.alloc (Obj.cells #[Value.bool false, Value.bool false, Value.bool false, Value.string { data := #[] }, Value.string { data := #[] }] 23)).alloc (Obj.cells #[Value.bool false, Value.bool false, Value.bool false, Value.string { data := #[] }, Value.string { data := #[] }] 23))) :=
    ⟨push_old (push_at _ _ rfl), push_at _ _ (by simp), below2 w oR oR⟩
  go_enter Tryd.func8, Tryd.ntmps8
  go_upto_region 2 with fail
  generalize (w.alloc (Obj.cells #[Value.bool false, Value.bool false, Value.bool false, Value.string { data := #[] }, Value.string { data := #[] }] 23)).alloc (Obj.cells #[Value.bool false, Value.bool false, Value.bool false, Value.string { data := #[] }, Value.string { data := #[] }] 23) = X at HX ⊢
  go_upto_region 4 with (first
    | (go_at_call 19; refine (c1 _).mono ?_; clear c1; rintro e w1 ⟨rfl, hb1⟩)
    | (go_at_call 19; refine (c2 _).mono ?_; clear c2; rintro e w2 ⟨rfl, hb2⟩))
  have H2 : Hid (RuAt w2 w.heap.size r0 ∧ RuAt w2 (w.heap.size + 1) r0 ∧ Below w.heap.size w w2) := by
    have q := HX.out.2.2.size
    have q2 := hb1.size
    exact ⟨(HX.out.1.carry hb1).carry hb2, (HX.out.2.1.carry hb1).carry hb2, (HX.out.2.2.trans (hb1.mono q)).trans (hb2.mono (by omega))⟩
  clear HX hb1 hb2
  go_cut [55] from 30 to 55 (fun p wc => p = .bool bad ∧ wc = w2)
  case first =>
    clear g1 g2 g3 g4 c3 cL cW cS
    cases h1
    · have hq := hbad.out; subst hq; go_wp2; go_meet; exact ⟨rfl, rfl⟩
    cases h2
    · have hq := hbad.out; subst hq; go_wp2; go_meet; exact ⟨rfl, rfl⟩
    cases b1
    · cases b2
      · have hq := hbad.out; subst hq; go_wp2; go_meet; exact ⟨rfl, rfl⟩
      cases k1
      · cases k2
        · cases k3
          · have hq := hbad.out; subst hq; go_wp2; go_meet; exact ⟨rfl, rfl⟩
          · have hq := hbad.out; subst hq; go_wp2; go_meet; exact ⟨rfl, rfl⟩
        · have hq := hbad.out; subst hq; go_wp2; go_meet; exact ⟨rfl, rfl⟩
      · have hq := hbad.out; subst hq; go_wp2; go_meet; exact ⟨rfl, rfl⟩
    · skip
      cases k1
      · cases k2
        · cases k3
          · have hq := hbad.out; subst hq; go_wp2; go_meet; exact ⟨rfl, rfl⟩
          · have hq := hbad.out; subst hq; go_wp2; go_meet; exact ⟨rfl, rfl⟩
        · have hq := hbad.out; subst hq; go_wp2; go_meet; exact ⟨rfl, rfl⟩
      · have hq := hbad.out; subst hq; go_wp2; go_meet; exact ⟨rfl, rfl⟩
  case rest =>
    obtain ⟨rfl, rfl⟩ := hcut
    clear e2 f3 hbad
    cases bad with
    | true =>
      go_wp2_with (first
        | (refine wp_load_ru rfl (.tmp 4) rfl (w.heap.size + 1) rfl r0 H2.out.2.1 ?_)
        | (refine wp_store_ru rfl (.tmp 2) (.tmp 56) rfl w.heap.size rfl r0 rfl r0 H2.out.1 ?_))
      refine bodyPost_ret (v := qpv (r0, 2)) ?_ rfl ⟨?_, ?_⟩
      · exact res_ru1 rfl _ _ w.heap.size _ _ rfl rfl (RuAt.set H2.out.1 r0)
      · rw [← HRR.out]; rfl
      · exact H2.out.2.2.trans ((rowK wc w.heap.size (rc r0)).below H2.out.2.2.size (fun j e => by omega))
    | false =>
      go_upto_region 8 with (go_at_call 19; refine (c3 _).mono ?_; clear c3; rintro e w3 ⟨rfl, hb3⟩)
      have R0 : Hid (R3 w (w3.alloc (Obj.cells #[Value.bool b1, Value.bool (!k2), Value.bool (!k1), Value.string (ba A3), Value.string (ba Z3)] 23)) w3.heap.size ⟨b1, !k2, !k1, A3, Z3⟩) := by
        have q := H2.out.2.2.size
        have q2 := hb3.size
        have hb := below1 w3 (Obj.cells #[Value.bool b1, Value.bool (!k2), Value.bool (!k1), Value.string (ba A3), Value.string (ba Z3)] 23)
        have x0 := H2.out.1.carry hb3
        have x1 := H2.out.2.1.carry hb3
        exact ⟨x0.carry hb, x1.carry hb, push_at _ _ rfl, x1.lt, (H2.out.2.2.trans (hb3.mono q)).trans (hb.mono (by omega))⟩
      clear H2 hb3 e1 f1 f2
      generalize w3.alloc _ = W at R0 ⊢
      generalize w3.heap.size = g at R0 ⊢
      cases h3 with
      | false =>
        clear cL cW cS
        cases a1 with
        | true =>
          go_wp2_with (first
            | (refine wp_load_ru rfl _ rfl g rfl ⟨b1, !k2, !k1, A3, Z3⟩ R0.out.c ?_)
            | (refine wp_store_ru rfl _ _ rfl w.heap.size rfl ⟨b1, !k2, !k1, A3, Z3⟩ rfl r0 R0.out.a ?_))
          refine bodyPost_ret (v := qpv (⟨b1, !k2, !k1, A3, Z3⟩, 0)) ?_ rfl ⟨?_, ?_⟩
          · exact res_ru1 rfl _ _ w.heap.size _ _ rfl rfl (R0.out.fin ⟨b1, !k2, !k1, A3, Z3⟩).1
          · rw [← HRR.out]; rfl
          · exact (R0.out.fin ⟨b1, !k2, !k1, A3, Z3⟩).2
        | false =>
          cases a2 <;> cases a3 <;> cases a4
          all_goals
            go_wp2_with (first
              | (refine wp_load_ru rfl _ rfl (w.heap.size + 1) rfl r0 R0.out.b ?_)
              | (refine wp_store_ru rfl _ _ rfl w.heap.size rfl r0 rfl r0 R0.out.a ?_))
            refine bodyPost_ret (v := qpv (r0, 2)) ?_ rfl ⟨?_, ?_⟩
            · exact res_ru1 rfl _ _ w.heap.size _ _ rfl rfl (R0.out.fin r0).1
            · rw [← HRR.out]; rfl
            · exact (R0.out.fin r0).2
      | true =>
        cases a1
        all_goals
          cases a2 with
          | true =>
            clear cW cS
            by_cases h0 : n = 0
            · subst h0
              go_wp2_with (first
                | (go_at_call 20; refine (cL _).mono ?_; clear cL; rintro e w4 ⟨rfl, hb4⟩; have R4 : Hid (R3 w w4 g ⟨b1, !k2, !k1, A3, Z3⟩) := R0.out.bel hb4; have u4 := R4.out.c.c4; have fu := R4.out.c.fz 4)
                | (refine wp_load_ru rfl _ rfl g rfl ⟨b1, !k2, !k1, A3, v⟩ (R4.out.val v).c ?_)
                | (refine wp_store_ru rfl _ _ rfl w.heap.size rfl ⟨b1, !k2, !k1, A3, v⟩ rfl r0 (R4.out.val v).a ?_))
              refine bodyPost_ret (v := qpv (⟨b1, !k2, !k1, A3, v⟩, 0)) ?_ rfl ⟨?_, ?_⟩
              · exact res_ru1 rfl _ _ w.heap.size _ _ rfl rfl ((R4.out.val v).fin ⟨b1, !k2, !k1, A3, v⟩).1
              · rw [← HRR.out]; rfl
              · exact ((R4.out.val v).fin ⟨b1, !k2, !k1, A3, v⟩).2
            · have hd : ((n : Int) != 0) = true := by simp; omega
              have e := HRR.out
              rw [if_neg h0] at e
              replace HRR : Hid _ := e
              clear h0 e
              go_wp2_with (first
                | (go_at_call 20; refine (cL _).mono ?_; clear cL; rintro e w4 ⟨rfl, hb4⟩; have R4 : Hid (R3 w w4 g ⟨b1, !k2, !k1, A3, Z3⟩) := R0.out.bel hb4; have u4 := R4.out.c.c4; have fu := R4.out.c.fz 4)
                | (refine wp_load_ru rfl _ rfl (w.heap.size + 1) rfl r0 R4.out.b ?_)
                | (refine wp_store_ru rfl _ _ rfl w.heap.size rfl r0 rfl r0 R4.out.a ?_))
              refine bodyPost_ret (v := qpv (r0, n)) ?_ rfl ⟨?_, ?_⟩
              · exact res_ru1 rfl _ _ w.heap.size _ _ rfl rfl (R4.out.fin r0).1
              · rw [← HRR.out]; rfl
              · exact (R4.out.fin r0).2
          | false =>
            clear cL
            cases a3 with
            | true =>
              clear cS
              by_cases h0 : m = 0
              · subst h0
                go_wp2_with (first
                  | (go_at_call 21; refine (cW _).mono ?_; clear cW; rintro e w5 ⟨rfl, hw5⟩; replace hw5 := hw5.symm; subst hw5)
                  | (refine wp_load_ru rfl _ rfl g rfl ⟨b1, !k2, !k1, A3, Z3⟩ R0.out.c ?_)
                  | (refine wp_store_ru rfl _ _ rfl w.heap.size rfl ⟨b1, !k2, !k1, A3, Z3⟩ rfl r0 R0.out.a ?_))
                refine bodyPost_ret (v := qpv (⟨b1, !k2, !k1, A3, Z3⟩, 0)) ?_ rfl ⟨?_, ?_⟩
                · exact res_ru1 rfl _ _ w.heap.size _ _ rfl rfl (R0.out.fin ⟨b1, !k2, !k1, A3, Z3⟩).1
                · rw [← HRR.out]; rfl
                · exact (R0.out.fin ⟨b1, !k2, !k1, A3, Z3⟩).2
              · have hd : ((m : Int) != 0) = true := by simp; omega
                have e := HRR.out
                rw [if_neg h0] at e
                replace HRR : Hid _ := e
                clear h0 e
                go_wp2_with (first
                  | (go_at_call 21; refine (cW _).mono ?_; clear cW; rintro e w5 ⟨rfl, hw5⟩; replace hw5 := hw5.symm; subst hw5)
                  | (refine wp_load_ru rfl _ rfl (w.heap.size + 1) rfl r0 R0.out.b ?_)
                  | (refine wp_store_ru rfl _ _ rfl w.heap.size rfl r0 rfl r0 R0.out.a ?_))
                refine bodyPost_ret (v := qpv (r0, m)) ?_ rfl ⟨?_, ?_⟩
                · exact res_ru1 rfl _ _ w.heap.size _ _ rfl rfl (R0.out.fin r0).1
                · rw [← HRR.out]; rfl
                · exact (R0.out.fin r0).2
            | false =>
              clear cW
              cases a4 with
              | true =>
                cases z with
                | true =>
                  go_wp2_with (first
                    | (go_at_call 22; refine (cS _).mono ?_; clear cS; rintro e w6 ⟨rfl, hw6⟩; replace hw6 := hw6.symm; subst hw6)
                    | (refine wp_load_ru rfl _ rfl g rfl ⟨b1, !k2, !k1, A3, Z3⟩ R0.out.c ?_)
                    | (refine wp_store_ru rfl _ _ rfl w.heap.size rfl ⟨b1, !k2, !k1, A3, Z3⟩ rfl r0 R0.out.a ?_))
                  refine bodyPost_ret (v := qpv (⟨b1, !k2, !k1, A3, Z3⟩, 0)) ?_ rfl ⟨?_, ?_⟩
                  · exact res_ru1 rfl _ _ w.heap.size _ _ rfl rfl (R0.out.fin ⟨b1, !k2, !k1, A3, Z3⟩).1
                  · rw [← HRR.out]; rfl
                  · exact (R0.out.fin ⟨b1, !k2, !k1, A3, Z3⟩).2
                | false =>
                  go_wp2_with (first
                    | (go_at_call 22; refine (cS _).mono ?_; clear cS; rintro e w6 ⟨rfl, hw6⟩; replace hw6 := hw6.symm; subst hw6)
                    | (refine wp_load_ru rfl _ rfl (w.heap.size + 1) rfl r0 R0.out.b ?_)
                    | (refine wp_store_ru rfl _ _ rfl w.heap.size rfl r0 rfl r0 R0.out.a ?_))
                  refine bodyPost_ret (v := qpv (r0, 2)) ?_ rfl ⟨?_, ?_⟩
                  · exact res_ru1 rfl _ _ w.heap.size _ _ rfl rfl (R0.out.fin r0).1
                  · rw [← HRR.out]; rfl
                  · exact (R0.out.fin r0).2
              | false =>
                go_wp2_with (first
                  | (refine wp_load_ru rfl _ rfl (w.heap.size + 1) rfl r0 R0.out.b ?_)
                  | (refine wp_store_ru rfl _ _ rfl w.heap.size rfl r0 rfl r0 R0.out.a ?_))
                refine bodyPost_ret (v := qpv (r0, 2)) ?_ rfl ⟨?_, ?_⟩
                · exact res_ru1 rfl _ _ w.heap.size _ _ rfl rfl (R0.out.fin r0).1
                · rw [← HRR.out]; rfl
                · exact (R0.out.fin r0).2
end Go.Proofs.YtiplalbicibahaaDoor
