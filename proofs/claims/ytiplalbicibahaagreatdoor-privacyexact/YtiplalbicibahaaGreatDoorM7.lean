/- Texts of one seat, one behind the other: PvR, PvS, PvZh, PvZi, PvZj, PvZk. -/
import Derived.Test.YtiplalbicibahaaGreatDoorM2
import Derived.Test.YtiplalbicibahaaGreatDoorM6
import Derived.Deep.Cut
import Derived.Deep.CutRange
import Derived.Test.YtiplalbicibahaaGreatDoorM4
/- privacy: the document's Parse (pvr_gen.py writes this). -/
set_option maxRecDepth 100000
namespace Go.Proofs.YtiplalbicibahaaGreatDoor
open Go.RowKit Go.Joins

theorem qidx (s : ByteArray) (k : Nat) (w : World) (h : k < s.size) : (Instr.index 9 (.string s) (.int .i64 k)).run Tryz.prog w = .ok (.int .u8 ((s.data[k]'h).toNat)) w := by
  rw [run_index_string w 9 s .i64 (k : Int) Tryz.underlying9, dif_pos ⟨by omega, by omega⟩]
  rfl

/-! ### a piece -/
theorem qix_skip {c : UInt8} {l : By} {k : Nat} (hk : k < l.length) (h : ∀ j, j < k → l.getD j 0 ≠ c) (hc : l[k] = c) : Nm.ix c l = k := by
  unfold Nm.ix
  rw [List.findIdx_eq hk]
  refine ⟨by simp [hc], fun j hj => ?_⟩
  have := h j hj
  rw [List.getD, List.getElem?_eq_getElem (by omega)] at this
  simpa using this
theorem qix_none {c : UInt8} {l : By} (h : ∀ j, j < l.length → l.getD j 0 ≠ c) : Nm.ix c l = l.length := by
  unfold Nm.ix
  rw [List.findIdx_eq_length]
  intro x hx
  obtain ⟨j, hj, rfl⟩ := List.getElem_of_mem hx
  have := h j hj
  rw [List.getD, List.getElem?_eq_getElem hj] at this
  simpa using this

def pcv (l : By) : Value := .tuple #[.string (ba (Nm.cutA 32 l)), .string (ba (Nm.cutZ 32 l)), .bool (Nm.hasB 32 l)]
theorem ba_ext (l : By) (i j : Nat) : (ba l).extract i j = ba ((l.take j).drop i) := by
  apply ByteArray.ext
  simp [ba, ByteArray.data_extract, List.extract_toArray, List.drop_take]
set_option maxHeartbeats 1600000 in
theorem piece_any (l : By) (w : World) (hs : l.length ≤ 281474976710656) : Calls Tryz.prog 54 #[.string (ba l)] w fun e w' => e = .returned (pcv l) ∧ Below w.heap.size w w' := by
  have hz := ba_size l
  have hlen : l.length = (ba l).size := hz.symm
  obtain ⟨R, hR⟩ : ∃ R, pcv l = R := ⟨_, rfl⟩
  rw [hR]
  obtain ⟨s, hsb⟩ : ∃ s, ba l = s := ⟨_, rfl⟩
  have hd : s.data = l.toArray := by rw [← hsb]; rfl
  have hx := fun i j => ba_ext l i j
  rw [hsb] at hz hlen hx ⊢
  replace hx : Hid _ := hx
  rw [hlen] at hs
  clear hz
  replace hlen : Hid _ := hlen
  replace hR : Hid _ := hR
  go_enter Tryz.func54, Tryz.ntmps54
  go_wp2
  go_loop [5] (fun i => ∃ k : Nat, k ≤ s.size ∧ i = .int .i64 k ∧ Hid (∀ j, j < k → l.getD j 0 ≠ 32)) (fun i => s.size - (intOf i).toNat)
  case atStart => exact ⟨0, by omega, rfl, fun j hj => by omega⟩
  case round =>
    obtain ⟨k, hk, rfl, HN⟩ := hrel
    by_cases hp : k < s.size
    · have hpz : (k : Int) < (s.size : Int) := by omega
      have hix := fun w => qidx s k w hp
      have hget : l[k]'(by have := hlen.out; omega) = s.data[k]'hp := by simp [hd]
      obtain ⟨b, hb⟩ : ∃ b, s.data[k]'hp = b := ⟨_, rfl⟩
      rw [hb] at hix hget
      clear hb
      by_cases hbc : b = 32
      · have hb2 : ((b.toNat : Int) == 32) = true := by rw [hbc]; rfl
        have e := qix_skip (by have := hlen.out; omega) HN.out (hget.trans hbc)
        have x1 : s.extract 0 k = ba (Nm.cutA 32 l) := by rw [hx.out]; unfold Nm.cutA; rw [e]; rfl
        have x2 : s.extract (k + 1) s.size = ba (Nm.cutZ 32 l) := by rw [hx.out]; unfold Nm.cutZ; rw [e, ← hlen.out, List.take_length]
        have x3 : Nm.hasB 32 l = true := by unfold Nm.hasB; rw [e]; have := hlen.out; simp; omega
        have hRR : Hid (R = .tuple #[.string (ba (Nm.cutA 32 l)), .string (ba (Nm.cutZ 32 l)), .bool true]) := by show R = _; rw [← hR.out, ← x3]; rfl
        generalize ba (Nm.cutA 32 l) = A at x1 hRR
        generalize ba (Nm.cutZ 32 l) = Z at x2 hRR
        have k1 : (0 : Int) ≤ (k : Int) := by omega
        have k2 : (k : Int) ≤ (s.size : Int) := by omega
        have k3 : (0 : Int) ≤ (k : Int) + 1 := by omega
        have k4 : (k : Int) + 1 ≤ (s.size : Int) := by omega
        clear e x3 hx hd hlen hget
        go_wp2
        go_region
        go_wp2
        go_ret3
        rw [hRR.out]
        exact ⟨rfl, (Below.refl _ _).drew⟩
      · have hne : (b.toNat : Int) ≠ 32 := fun h => hbc (UInt8.toNat_inj.1 (by exact_mod_cast h))
        have hb2 : ((b.toNat : Int) == 32) = false := by simpa using hne
        go_wp2
        refine ⟨⟨k + 1, by omega, by simp, fun j hj => ?_⟩, by simp [intOf]; omega⟩
        by_cases hjk : j = k
        · subst hjk
          rw [List.getD, List.getElem?_eq_getElem (by have := hlen.out; omega), Option.getD_some, hget]
          exact hbc
        · exact HN.out j (by omega)
    · have hkn : k = s.size := by omega
      have hpz : (s.size : Int) ≤ (k : Int) := by omega
      have e := qix_none (c := 32) (l := l) (fun j hj => HN.out j (by have := hlen.out; omega))
      have hRR : Hid (R = .tuple #[.string s, .string ⟨#[]⟩, .bool false]) := by
        show R = _
        rw [← hR.out, ← hsb]
        unfold pcv Nm.cutA Nm.cutZ Nm.hasB
        rw [e, List.take_length, List.drop_eq_nil_of_le (by have := hlen.out; omega), decide_eq_false (by omega)]
        rfl
      clear e hx hd hlen
      go_wp2
      go_ret3
      rw [hRR.out]
      exact ⟨rfl, Below.refl _ _⟩

/-! ### a word, a sub -/
theorem qSub_any (s : ByteArray) (w : World) : Calls Tryz.prog 56 #[.string s] w fun e w' => e = .returned (.bool (isSubB s.data.toList)) ∧ w' = w := by
  unfold isSubB wNone wTo wFrom wBoth
  rw [← Lib.toList_data]
  generalize h1 : (s.toList == [110, 111, 110, 101]) = b1
  generalize h2 : (s.toList == [116, 111]) = b2
  generalize h3 : (s.toList == [102, 114, 111, 109]) = b3
  generalize h4 : (s.toList == [98, 111, 116, 104]) = b4
  cases b1 <;> cases b2 <;> cases b3 <;> cases b4
  all_goals
    go_enter Tryz.func56, Tryz.ntmps56
    go_wp2
    go_ret
    exact ⟨rfl, rfl⟩
theorem qWord_any (s : ByteArray) (w : World) (hs : s.size ≤ 281474976710656) : Calls Tryz.prog 37 #[.string s] w fun e w' => e = .returned (.int .i64 (nameE s.data.toList : Nat)) ∧ w' = w := by
  have hl : s.data.toList.length = s.size := by simp
  unfold nameE
  rw [hl]
  by_cases h1 : 64 < s.size
  · rw [if_pos h1]
    have hd : (64 : Int) < (s.size : Int) := by omega
    go_enter Tryz.func37, Tryz.ntmps37
    go_wp2
    go_ret
    exact ⟨rfl, rfl⟩
  · rw [if_neg h1]
    have hd : ¬ (64 : Int) < (s.size : Int) := by omega
    have cV := Nm.refValid_any s w (by omega)
    rw [Nm.vld_nums] at cV
    have he : s.toList.isEmpty = decide (s.data.toList = []) := by
      rw [Lib.toList_data]; cases s.data.toList <;> rfl
    by_cases h2 : s.data.toList = []
    · rw [if_pos (Or.inl h2)]
      have hd2 : s.toList.isEmpty = true := by rw [he]; simp [h2]
      clear he h2 cV
      go_enter Tryz.func37, Tryz.ntmps37
      go_wp2
      go_ret
      exact ⟨rfl, rfl⟩
    · have hd2 : s.toList.isEmpty = false := by rw [he]; simp [h2]
      generalize Lib.validD s.data.toList = V at cV ⊢
      have hI : (if s.data.toList = [] ∨ V = false then (4 : Nat) else 0) = if V = true then 0 else 4 := by cases V <;> simp [h2]
      rw [hI]
      clear he h2 hI hl h1
      cases V with
      | true =>
        go_enter Tryz.func37, Tryz.ntmps37
        go_wp2_with (go_at_call 53; refine cV.mono ?_; rintro e w1 ⟨rfl, hw1⟩; replace hw1 := hw1.symm; subst hw1)
        go_ret
        exact ⟨rfl, rfl⟩
      | false =>
        go_enter Tryz.func37, Tryz.ntmps37
        go_wp2_with (go_at_call 53; refine cV.mono ?_; rintro e w1 ⟨rfl, hw1⟩; replace hw1 := hw1.symm; subst hw1)
        go_ret
        exact ⟨rfl, rfl⟩

/-! ### what the document's Parse tells -/
def byR (al i o h : Bool) (A Z : By) : Rul × Nat :=
  if (A == wAll && !h) = true then (⟨al, i, o, A, Z⟩, 0)
  else if (A == wJid && h) = true then (if (Nm.localN Z).2 = 0 then (⟨al, i, o, A, (Nm.localN Z).1⟩, 0) else (r0, (Nm.localN Z).2))
  else if (A == wGroup && h) = true then (if nameE Z = 0 then (⟨al, i, o, A, Z⟩, 0) else (r0, nameE Z))
  else if (A == wSub && (h && isSubB Z)) = true then (⟨al, i, o, A, Z⟩, 0) else (r0, 2)
def badR (h1 h2 b1 b2 c1 c2 c3 : Bool) : Bool := !(h1 && (h2 && ((b1 || b2) && (c1 || (c2 || c3)))))
def parseQ (l : By) : Rul × Nat :=
  if badR (Nm.hasB 32 l) (Nm.hasB 32 (Nm.cutZ 32 l)) (Nm.cutA 32 l == wAllow) (Nm.cutA 32 l == wDeny) (Nm.cutA 32 (Nm.cutZ 32 l) == wIn) (Nm.cutA 32 (Nm.cutZ 32 l) == wOut) (Nm.cutA 32 (Nm.cutZ 32 l) == wBoth) = true then (r0, 2)
  else byR (Nm.cutA 32 l == wAllow) (!(Nm.cutA 32 (Nm.cutZ 32 l) == wOut)) (!(Nm.cutA 32 (Nm.cutZ 32 l) == wIn)) (Nm.hasB 32 (Nm.cutZ 32 (Nm.cutZ 32 l))) (Nm.cutA 32 (Nm.cutZ 32 (Nm.cutZ 32 l))) (Nm.cutZ 32 (Nm.cutZ 32 (Nm.cutZ 32 l)))
theorem no_blank {m : By} (h : Nm.hasB 32 m = false) : Nm.cutA 32 m = m ∧ Nm.cutZ 32 m = [] := by
  unfold Nm.hasB at h
  have h' := of_decide_eq_false h
  constructor
  · unfold Nm.cutA; exact List.take_of_length_le (by omega)
  · unfold Nm.cutZ; exact List.drop_eq_nil_of_le (by omega)
theorem byR_whom (al i o : Bool) (m : By) : byR al i o (Nm.hasB 32 m) (Nm.cutA 32 m) (Nm.cutZ 32 m) = if (whomR m).2.2 = 0 then (⟨al, i, o, (whomR m).1, (whomR m).2.1⟩, 0) else (r0, (whomR m).2.2) := by
  unfold whomR
  by_cases hm : (m == wAll) = true
  · rw [if_pos hm]
    have e : m = wAll := by simpa using hm
    subst e
    rfl
  · rw [if_neg hm]
    cases hh : Nm.hasB 32 m with
    | false =>
      obtain ⟨e1, e2⟩ := no_blank hh
      rw [e1, e2]
      unfold byR
      simp [hm]
    | true =>
      rw [if_pos rfl]
      generalize Nm.cutA 32 m = A
      generalize Nm.cutZ 32 m = Z
      unfold byR valueR
      simp only [Bool.not_true, Bool.and_false, Bool.false_eq_true, if_false, Bool.and_true, Bool.true_and]
      cases hj : A == wJid with
      | true =>
        simp only [if_true]
        by_cases h0 : (Nm.localN Z).2 = 0
        · simp [h0]
        · simp [h0]
      | false =>
        simp only [Bool.false_eq_true, if_false]
        cases hg : A == wGroup with
        | true =>
          simp only [if_true]
          by_cases h0 : nameE Z = 0
          · simp [h0]
          · simp [h0]
        | false =>
          simp only [Bool.false_eq_true, if_false]
          cases A == wSub && isSubB Z <;> simp
theorem ways_x (A : By) (h : (A == wIn || (A == wOut || A == wBoth)) = true) : (A == wIn || A == wBoth) = !(A == wOut) ∧ (A == wOut || A == wBoth) = !(A == wIn) := by
  simp only [Bool.or_eq_true, beq_iff_eq] at h
  rcases h with rfl | rfl | rfl <;> exact ⟨rfl, rfl⟩
theorem parse_same (l : By) : parseR l = parseQ l := by
  unfold parseR parseQ verdictR
  generalize Nm.cutZ 32 l = Z1
  generalize Nm.cutA 32 l = A1
  cases Nm.hasB 32 l with
  | false => rfl
  | true =>
    rw [if_pos rfl]
    cases hb : (A1 == wAllow || A1 == wDeny) with
    | false =>
      unfold badR
      rw [hb]
      cases Nm.hasB 32 Z1 <;> rfl
    | true =>
      unfold waysR badR
      rw [if_pos rfl, hb]
      dsimp only
      rw [if_pos rfl]
      cases Nm.hasB 32 Z1 with
      | false => rfl
      | true =>
        rw [if_pos rfl]
        generalize hA : Nm.cutA 32 Z1 = A2
        generalize Nm.cutZ 32 Z1 = Z2
        have hc : ((A2 == wIn || A2 == wBoth) || (A2 == wOut || A2 == wBoth)) = (A2 == wIn || (A2 == wOut || A2 == wBoth)) := by
          cases A2 == wIn <;> cases A2 == wOut <;> cases A2 == wBoth <;> rfl
        rw [hc]
        cases hw : (A2 == wIn || (A2 == wOut || A2 == wBoth)) with
        | false => rfl
        | true =>
          obtain ⟨x1, x2⟩ := ways_x A2 hw
          rw [if_pos rfl]
          dsimp only
          rw [if_pos rfl, byR_whom, x1, x2]
          rfl

/-! ### Parse -/
/-- The answer's rule, an empty one, and the one that is made. -/
structure R3 (w W : World) (g : Nat) (r : Rul) : Prop where
  a : RuAt W w.heap.size r0
  b : RuAt W (w.heap.size + 1) r0
  c : RuAt W g r
  hg : w.heap.size + 1 < g
  k : Below w.heap.size w W
section
variable {w W W' : World} {g : Nat} {r : Rul}
theorem R3.bel (h : R3 w W g r) (hb : Below W.heap.size W W') : R3 w W' g r := ⟨h.a.carry hb, h.b.carry hb, h.c.carry hb, h.hg, h.k.trans (hb.mono h.k.size)⟩
theorem R3.val (h : R3 w W g r) (v : By) : R3 w (W.setCell ⟨g, 4, none⟩ (.string (ba v))) g ⟨r.al, r.i, r.o, r.k, v⟩ := by
  have hg := h.hg
  have hk := setK W g 4 (.string (ba v))
  exact ⟨box_keep h.a hk (by omega), box_keep h.b hk (by omega), block_setCell (i := 4) h.c (.string (ba v)), hg, h.k.trans (hk.below h.k.size (fun j e => by omega))⟩
theorem R3.fin (h : R3 w W g r) (q : Rul) : RuAt (W.setRow w.heap.size (rc q)) w.heap.size q ∧ Below w.heap.size w (W.setRow w.heap.size (rc q)) :=
  ⟨RuAt.set h.a q, h.k.trans ((rowK W w.heap.size (rc q)).below (by have := h.a.lt; have := h.k.size; omega) (fun j e => by omega))⟩
end
def oR : Obj := .cells (rc r0) 72
def qpv (p : Rul × Nat) : Value := .tuple #[rv p.1, .int .i64 p.2]
set_option maxHeartbeats 3200000 in
theorem qparse_any (l : By) (w : World) (hs : l.length ≤ 281474976710656) : Calls Tryz.prog 38 #[.string (ba l)] w fun e w' => e = .returned (prv l) ∧ Below w.heap.size w w' := by
  unfold prv
  rw [parse_same]
  show Calls _ _ _ _ fun e w' => e = .returned (qpv (parseQ l)) ∧ _
  have z1 : (Nm.cutZ 32 l).length ≤ 281474976710656 := by unfold Nm.cutZ; rw [List.length_drop]; omega
  have z2 : (Nm.cutZ 32 (Nm.cutZ 32 l)).length ≤ 281474976710656 := by generalize Nm.cutZ 32 l = Z at *; unfold Nm.cutZ; rw [List.length_drop]; omega
  have z3 : (Nm.cutZ 32 (Nm.cutZ 32 (Nm.cutZ 32 l))).length ≤ 281474976710656 := by generalize Nm.cutZ 32 (Nm.cutZ 32 l) = Z at *; unfold Nm.cutZ; rw [List.length_drop]; omega
  have c1 := fun w => piece_any l w hs
  have c2 := fun w => piece_any _ w z1
  have c3 := fun w => piece_any _ w z2
  unfold pcv at c1 c2 c3
  unfold parseQ
  generalize Nm.cutZ 32 (Nm.cutZ 32 (Nm.cutZ 32 l)) = Z3 at *
  generalize Nm.cutA 32 (Nm.cutZ 32 (Nm.cutZ 32 l)) = A3 at *
  generalize Nm.hasB 32 (Nm.cutZ 32 (Nm.cutZ 32 l)) = h3 at *
  generalize Nm.cutZ 32 (Nm.cutZ 32 l) = Z2 at *
  generalize Nm.cutA 32 (Nm.cutZ 32 l) = A2 at *
  generalize Nm.hasB 32 (Nm.cutZ 32 l) = h2 at *
  generalize Nm.cutZ 32 l = Z1 at *
  generalize Nm.cutA 32 l = A1 at *
  generalize Nm.hasB 32 l = h1 at *
  have e1 : ((ba A1).toList == [97, 108, 108, 111, 119]) = (A1 == wAllow) := ba_eq _ _
  have e2 : ((ba A1).toList == [100, 101, 110, 121]) = (A1 == wDeny) := ba_eq _ _
  have f1 : ((ba A2).toList == [105, 110]) = (A2 == wIn) := ba_eq _ _
  have f2 : ((ba A2).toList == [111, 117, 116]) = (A2 == wOut) := ba_eq _ _
  have f3 : ((ba A2).toList == [98, 111, 116, 104]) = (A2 == wBoth) := ba_eq _ _
  have g1 : ((ba A3).toList == [97, 108, 108]) = (A3 == wAll) := ba_eq _ _
  have g2 : ((ba A3).toList == [106, 105, 100]) = (A3 == wJid) := ba_eq _ _
  have g3 : ((ba A3).toList == [103, 114, 111, 117, 112]) = (A3 == wGroup) := ba_eq _ _
  have g4 : ((ba A3).toList == [115, 117, 98]) = (A3 == wSub) := ba_eq _ _
  have cL := fun w => Nm.refLocal_any (ba Z3) w (by rw [ba_size]; omega)
  have cW := fun w => qWord_any (ba Z3) w (by rw [ba_size]; exact z3)
  have cS := fun w => qSub_any (ba Z3) w
  rw [ba_list] at cL cW cS
  clear z1 z2 z3 hs
  unfold byR
  generalize (A1 == wAllow) = b1 at *
  generalize (A1 == wDeny) = b2 at *
  generalize (A2 == wIn) = k1 at *
  generalize (A2 == wOut) = k2 at *
  generalize (A2 == wBoth) = k3 at *
  generalize (A3 == wAll) = a1 at *
  generalize (A3 == wJid) = a2 at *
  generalize (A3 == wGroup) = a3 at *
  generalize (A3 == wSub) = a4 at *
  generalize Nm.localN Z3 = p at *
  obtain ⟨v, n⟩ := p
  dsimp only at cL ⊢
  generalize nameE Z3 = m at *
  generalize isSubB Z3 = z at *
  obtain ⟨bad, hbad⟩ : ∃ bad, Hid (badR h1 h2 b1 b2 k1 k2 k3 = bad) := ⟨_, rfl⟩
  rw [hbad.out]
  obtain ⟨RR, HRR⟩ : ∃ RR, Hid (qpv (if bad = true then (r0, 2) else if (a1 && !h3) = true then (⟨b1, !k2, !k1, A3, Z3⟩, 0) else if (a2 && h3) = true then (if n = 0 then (⟨b1, !k2, !k1, A3, v⟩, 0) else (r0, n)) else if (a3 && h3) = true then (if m = 0 then (⟨b1, !k2, !k1, A3, Z3⟩, 0) else (r0, m)) else if (a4 && (h3 && z)) = true then (⟨b1, !k2, !k1, A3, Z3⟩, 0) else (r0, 2)) = RR) := ⟨_, rfl⟩
  rw [HRR.out]
  have HX : Hid (RuAt ((w.alloc (Obj.cells #[Value.bool false, Value.bool false, Value.bool false, Value.string { data := #[] }, Value.string { data := #[] }] 72)).alloc (Obj.cells #[Value.bool false, Value.bool false, Value.bool false, Value.string { data := #[] }, Value.string { data := #[] }] 72)) w.heap.size r0 ∧ RuAt ((w.alloc (Obj.cells #[Value.bool false, Value.bool false, Value.bool false, Value.string { data := #[] }, Value.string { data := #[] }] 72)).alloc (Obj.cells #[Value.bool false, Value.bool false, Value.bool false, Value.string { data := #[] }, Value.string { data := #[] }] 72)) (w.heap.size + 1) r0 ∧ Below w.heap.size w ((w.alloc (Obj.cells #[Value.bool false, Value.bool false, Value.bool false, Value.string { data := #[] }, Value.string { data := #[] }] 72)).alloc (Obj.cells #[Value.bool false, Value.bool false, Value.bool false, Value.string { data := #[] }, Value.string { data := #[] }] 72))) :=
    ⟨push_old (push_at _ _ rfl), push_at _ _ (by simp), below2 w oR oR⟩
  go_enter Tryz.func38, Tryz.ntmps38
  go_upto_region 2 with fail
  generalize (w.alloc (Obj.cells #[Value.bool false, Value.bool false, Value.bool false, Value.string { data := #[] }, Value.string { data := #[] }] 72)).alloc (Obj.cells #[Value.bool false, Value.bool false, Value.bool false, Value.string { data := #[] }, Value.string { data := #[] }] 72) = X at HX ⊢
  go_upto_region 4 with (first
    | (go_at_call 54; refine (c1 _).mono ?_; clear c1; rintro e w1 ⟨rfl, hb1⟩)
    | (go_at_call 54; refine (c2 _).mono ?_; clear c2; rintro e w2 ⟨rfl, hb2⟩))
  have H2 : Hid (RuAt w2 w.heap.size r0 ∧ RuAt w2 (w.heap.size + 1) r0 ∧ Below w.heap.size w w2) := by
    have q := HX.out.2.2.size
    have q2 := hb1.size
    exact ⟨(HX.out.1.carry hb1).carry hb2, (HX.out.2.1.carry hb1).carry hb2, (HX.out.2.2.trans (hb1.mono q)).trans (hb2.mono (by omega))⟩
  clear HX hb1 hb2
  go_cut [55] from 30 to 55 (fun p wc => p = .bool bad ∧ wc = w2)
  case first =>
    clear g1 g2 g3 g4 c3 cL cW cS
    cases h1
    · have hq := hbad.out; subst hq; go_wp2; go_meet; exact ⟨rfl, rfl⟩
    cases h2
    · have hq := hbad.out; subst hq; go_wp2; go_meet; exact ⟨rfl, rfl⟩
    cases b1
    · cases b2
      · have hq := hbad.out; subst hq; go_wp2; go_meet; exact ⟨rfl, rfl⟩
      cases k1
      · cases k2
        · cases k3
          · have hq := hbad.out; subst hq; go_wp2; go_meet; exact ⟨rfl, rfl⟩
          · have hq := hbad.out; subst hq; go_wp2; go_meet; exact ⟨rfl, rfl⟩
        · have hq := hbad.out; subst hq; go_wp2; go_meet; exact ⟨rfl, rfl⟩
      · have hq := hbad.out; subst hq; go_wp2; go_meet; exact ⟨rfl, rfl⟩
    · skip
      cases k1
      · cases k2
        · cases k3
          · have hq := hbad.out; subst hq; go_wp2; go_meet; exact ⟨rfl, rfl⟩
          · have hq := hbad.out; subst hq; go_wp2; go_meet; exact ⟨rfl, rfl⟩
        · have hq := hbad.out; subst hq; go_wp2; go_meet; exact ⟨rfl, rfl⟩
      · have hq := hbad.out; subst hq; go_wp2; go_meet; exact ⟨rfl, rfl⟩
  case rest =>
    obtain ⟨rfl, rfl⟩ := hcut
    clear e2 f3 hbad
    cases bad with
    | true =>
      go_wp2_with (first
        | (refine wp_load_ru rfl (.tmp 4) rfl (w.heap.size + 1) rfl r0 H2.out.2.1 ?_)
        | (refine wp_store_ru rfl (.tmp 2) (.tmp 56) rfl w.heap.size rfl r0 rfl r0 H2.out.1 ?_))
      refine bodyPost_ret (v := qpv (r0, 2)) ?_ rfl ⟨?_, ?_⟩
      · exact res_ru1 rfl _ _ w.heap.size _ _ rfl rfl (RuAt.set H2.out.1 r0)
      · rw [← HRR.out]; rfl
      · exact H2.out.2.2.trans ((rowK wc w.heap.size (rc r0)).below H2.out.2.2.size (fun j e => by omega))
    | false =>
      go_upto_region 8 with (go_at_call 54; refine (c3 _).mono ?_; clear c3; rintro e w3 ⟨rfl, hb3⟩)
      have R0 : Hid (R3 w (w3.alloc (Obj.cells #[Value.bool b1, Value.bool (!k2), Value.bool (!k1), Value.string (ba A3), Value.string (ba Z3)] 72)) w3.heap.size ⟨b1, !k2, !k1, A3, Z3⟩) := by
        have q := H2.out.2.2.size
        have q2 := hb3.size
        have hb := below1 w3 (Obj.cells #[Value.bool b1, Value.bool (!k2), Value.bool (!k1), Value.string (ba A3), Value.string (ba Z3)] 72)
        have x0 := H2.out.1.carry hb3
        have x1 := H2.out.2.1.carry hb3
        exact ⟨x0.carry hb, x1.carry hb, push_at _ _ rfl, x1.lt, (H2.out.2.2.trans (hb3.mono q)).trans (hb.mono (by omega))⟩
      clear H2 hb3 e1 f1 f2
      generalize w3.alloc _ = W at R0 ⊢
      generalize w3.heap.size = g at R0 ⊢
      cases h3 with
      | false =>
        clear cL cW cS
        cases a1 with
        | true =>
          go_wp2_with (first
            | (refine wp_load_ru rfl _ rfl g rfl ⟨b1, !k2, !k1, A3, Z3⟩ R0.out.c ?_)
            | (refine wp_store_ru rfl _ _ rfl w.heap.size rfl ⟨b1, !k2, !k1, A3, Z3⟩ rfl r0 R0.out.a ?_))
          refine bodyPost_ret (v := qpv (⟨b1, !k2, !k1, A3, Z3⟩, 0)) ?_ rfl ⟨?_, ?_⟩
          · exact res_ru1 rfl _ _ w.heap.size _ _ rfl rfl (R0.out.fin ⟨b1, !k2, !k1, A3, Z3⟩).1
          · rw [← HRR.out]; rfl
          · exact (R0.out.fin ⟨b1, !k2, !k1, A3, Z3⟩).2
        | false =>
          cases a2 <;> cases a3 <;> cases a4
          all_goals
            go_wp2_with (first
              | (refine wp_load_ru rfl _ rfl (w.heap.size + 1) rfl r0 R0.out.b ?_)
              | (refine wp_store_ru rfl _ _ rfl w.heap.size rfl r0 rfl r0 R0.out.a ?_))
            refine bodyPost_ret (v := qpv (r0, 2)) ?_ rfl ⟨?_, ?_⟩
            · exact res_ru1 rfl _ _ w.heap.size _ _ rfl rfl (R0.out.fin r0).1
            · rw [← HRR.out]; rfl
            · exact (R0.out.fin r0).2
      | true =>
        cases a1
        all_goals
          cases a2 with
          | true =>
            clear cW cS
            by_cases h0 : n = 0
            · subst h0
              go_wp2_with (first
                | (go_at_call 55; refine (cL _).mono ?_; clear cL; rintro e w4 ⟨rfl, hb4⟩; have R4 : Hid (R3 w w4 g ⟨b1, !k2, !k1, A3, Z3⟩) := R0.out.bel hb4; have u4 := R4.out.c.c4; have fu := R4.out.c.fz 4)
                | (refine wp_load_ru rfl _ rfl g rfl ⟨b1, !k2, !k1, A3, v⟩ (R4.out.val v).c ?_)
                | (refine wp_store_ru rfl _ _ rfl w.heap.size rfl ⟨b1, !k2, !k1, A3, v⟩ rfl r0 (R4.out.val v).a ?_))
              refine bodyPost_ret (v := qpv (⟨b1, !k2, !k1, A3, v⟩, 0)) ?_ rfl ⟨?_, ?_⟩
              · exact res_ru1 rfl _ _ w.heap.size _ _ rfl rfl ((R4.out.val v).fin ⟨b1, !k2, !k1, A3, v⟩).1
              · rw [← HRR.out]; rfl
              · exact ((R4.out.val v).fin ⟨b1, !k2, !k1, A3, v⟩).2
            · have hd : ((n : Int) != 0) = true := by simp; omega
              have e := HRR.out
              rw [if_neg h0] at e
              replace HRR : Hid _ := e
              clear h0 e
              go_wp2_with (first
                | (go_at_call 55; refine (cL _).mono ?_; clear cL; rintro e w4 ⟨rfl, hb4⟩; have R4 : Hid (R3 w w4 g ⟨b1, !k2, !k1, A3, Z3⟩) := R0.out.bel hb4; have u4 := R4.out.c.c4; have fu := R4.out.c.fz 4)
                | (refine wp_load_ru rfl _ rfl (w.heap.size + 1) rfl r0 R4.out.b ?_)
                | (refine wp_store_ru rfl _ _ rfl w.heap.size rfl r0 rfl r0 R4.out.a ?_))
              refine bodyPost_ret (v := qpv (r0, n)) ?_ rfl ⟨?_, ?_⟩
              · exact res_ru1 rfl _ _ w.heap.size _ _ rfl rfl (R4.out.fin r0).1
              · rw [← HRR.out]; rfl
              · exact (R4.out.fin r0).2
          | false =>
            clear cL
            cases a3 with
            | true =>
              clear cS
              by_cases h0 : m = 0
              · subst h0
                go_wp2_with (first
                  | (go_at_call 37; refine (cW _).mono ?_; clear cW; rintro e w5 ⟨rfl, hw5⟩; replace hw5 := hw5.symm; subst hw5)
                  | (refine wp_load_ru rfl _ rfl g rfl ⟨b1, !k2, !k1, A3, Z3⟩ R0.out.c ?_)
                  | (refine wp_store_ru rfl _ _ rfl w.heap.size rfl ⟨b1, !k2, !k1, A3, Z3⟩ rfl r0 R0.out.a ?_))
                refine bodyPost_ret (v := qpv (⟨b1, !k2, !k1, A3, Z3⟩, 0)) ?_ rfl ⟨?_, ?_⟩
                · exact res_ru1 rfl _ _ w.heap.size _ _ rfl rfl (R0.out.fin ⟨b1, !k2, !k1, A3, Z3⟩).1
                · rw [← HRR.out]; rfl
                · exact (R0.out.fin ⟨b1, !k2, !k1, A3, Z3⟩).2
              · have hd : ((m : Int) != 0) = true := by simp; omega
                have e := HRR.out
                rw [if_neg h0] at e
                replace HRR : Hid _ := e
                clear h0 e
                go_wp2_with (first
                  | (go_at_call 37; refine (cW _).mono ?_; clear cW; rintro e w5 ⟨rfl, hw5⟩; replace hw5 := hw5.symm; subst hw5)
                  | (refine wp_load_ru rfl _ rfl (w.heap.size + 1) rfl r0 R0.out.b ?_)
                  | (refine wp_store_ru rfl _ _ rfl w.heap.size rfl r0 rfl r0 R0.out.a ?_))
                refine bodyPost_ret (v := qpv (r0, m)) ?_ rfl ⟨?_, ?_⟩
                · exact res_ru1 rfl _ _ w.heap.size _ _ rfl rfl (R0.out.fin r0).1
                · rw [← HRR.out]; rfl
                · exact (R0.out.fin r0).2
            | false =>
              clear cW
              cases a4 with
              | true =>
                cases z with
                | true =>
                  go_wp2_with (first
                    | (go_at_call 56; refine (cS _).mono ?_; clear cS; rintro e w6 ⟨rfl, hw6⟩; replace hw6 := hw6.symm; subst hw6)
                    | (refine wp_load_ru rfl _ rfl g rfl ⟨b1, !k2, !k1, A3, Z3⟩ R0.out.c ?_)
                    | (refine wp_store_ru rfl _ _ rfl w.heap.size rfl ⟨b1, !k2, !k1, A3, Z3⟩ rfl r0 R0.out.a ?_))
                  refine bodyPost_ret (v := qpv (⟨b1, !k2, !k1, A3, Z3⟩, 0)) ?_ rfl ⟨?_, ?_⟩
                  · exact res_ru1 rfl _ _ w.heap.size _ _ rfl rfl (R0.out.fin ⟨b1, !k2, !k1, A3, Z3⟩).1
                  · rw [← HRR.out]; rfl
                  · exact (R0.out.fin ⟨b1, !k2, !k1, A3, Z3⟩).2
                | false =>
                  go_wp2_with (first
                    | (go_at_call 56; refine (cS _).mono ?_; clear cS; rintro e w6 ⟨rfl, hw6⟩; replace hw6 := hw6.symm; subst hw6)
                    | (refine wp_load_ru rfl _ rfl (w.heap.size + 1) rfl r0 R0.out.b ?_)
                    | (refine wp_store_ru rfl _ _ rfl w.heap.size rfl r0 rfl r0 R0.out.a ?_))
                  refine bodyPost_ret (v := qpv (r0, 2)) ?_ rfl ⟨?_, ?_⟩
                  · exact res_ru1 rfl _ _ w.heap.size _ _ rfl rfl (R0.out.fin r0).1
                  · rw [← HRR.out]; rfl
                  · exact (R0.out.fin r0).2
              | false =>
                go_wp2_with (first
                  | (refine wp_load_ru rfl _ rfl (w.heap.size + 1) rfl r0 R0.out.b ?_)
                  | (refine wp_store_ru rfl _ _ rfl w.heap.size rfl r0 rfl r0 R0.out.a ?_))
                refine bodyPost_ret (v := qpv (r0, 2)) ?_ rfl ⟨?_, ?_⟩
                · exact res_ru1 rfl _ _ w.heap.size _ _ rfl rfl (R0.out.fin r0).1
                · rw [← HRR.out]; rfl
                · exact (R0.out.fin r0).2
end Go.Proofs.YtiplalbicibahaaGreatDoor

/- privacy: the document's writing and its Text. -/
set_option maxRecDepth 100000
namespace Go.Proofs.YtiplalbicibahaaGreatDoor
open Go.RowKit Go.Joins Go.Shelf

/-! ### as text -/
def wayQ (r : Rul) : By := if r.i && r.o then wBoth ++ [32] else if r.i then wIn ++ [32] else if r.o then wOut ++ [32] else []
def headQ (r : Rul) : By := (if r.al then wAllow ++ [32] else wDeny ++ [32]) ++ wayQ r ++ r.k
def writeQ (r : Rul) : By := if (r.k == wAll) = true then headQ r else headQ r ++ [32] ++ r.v
theorem wayQ_len (r : Rul) : (wayQ r).length ≤ 5 := by unfold wayQ; split; · decide
                                                       · split; · decide
                                                         · split <;> decide
theorem writeQ_len (r : Rul) : (writeQ r).length ≤ 12 + r.k.length + r.v.length := by
  have := wayQ_len r
  have ha : (if r.al then wAllow ++ [32] else wDeny ++ [32] : By).length ≤ 6 := by split <;> decide
  unfold writeQ headQ
  split
  · simp only [List.length_append]; omega
  · simp only [List.length_append, List.length_cons, List.length_nil]; omega
theorem write_same {r : Rul} (h : (r.i || r.o) = true) : writeQ r = writtenR r := by
  have e : headQ r = headT r := by
    obtain ⟨al, i, o, k, v⟩ := r
    unfold headQ headT wayQ wayT verdictT
    cases al <;> cases i <;> cases o <;> first | rfl | (dsimp only at h; cases h)
  unfold writeQ writtenR
  rw [e]
theorem ways_ok {m : By} (h : (waysR m).2.2.2 = 0) : ((waysR m).1 || (waysR m).2.1) = true := by
  unfold waysR at h ⊢
  split at h
  · rename_i h1
    rw [if_pos h1]
    split at h
    · rename_i h2
      rw [if_pos h2]
      exact h2
    · cases h
  · cases h
theorem way_ok {l : By} (h : (parseR l).2 = 0) : ((parseR l).1.i || (parseR l).1.o) = true := by
  unfold parseR at h ⊢
  split at h
  · rename_i h1
    rw [if_pos h1]
    split at h
    · rename_i h2
      rw [if_pos h2]
      split at h
      · rename_i h3
        rw [if_pos h3]
        exact ways_ok h2
      · rename_i h3; exact absurd h h3
    · rename_i h2; exact absurd h h2
  · rename_i h1; exact absurd h h1
def okQ (r : Rul) : Bool := (parseR (writeQ r)).2 == 0 && eqRul (parseR (writeQ r)).1 r
theorem not_ways {l : By} {r : Rul} (h : (r.i || r.o) = false) : ((parseR l).2 == 0 && eqRul (parseR l).1 r) = false := by
  cases hE : ((parseR l).2 == 0 && eqRul (parseR l).1 r) with
  | false => rfl
  | true =>
    simp only [Bool.and_eq_true, beq_iff_eq] at hE
    have := way_ok hE.1
    rw [eqRul_true hE.2, h] at this
    cases this
theorem ok_same (r : Rul) : okQ r = okT r := by
  unfold okQ okT
  cases h : (r.i || r.o) with
  | true => rw [write_same h]
  | false => rw [not_ways h, not_ways h]
theorem write_ok {r : Rul} (h : okQ r = true) : writeQ r = writtenR r := by
  cases h2 : (r.i || r.o) with
  | true => exact write_same h2
  | false => unfold okQ at h; rw [not_ways h2] at h; cases h

set_option maxHeartbeats 1600000 in
theorem qwrite_any (r : Rul) (w : World) (hz : r.k.length + r.v.length ≤ 281474976710000) : Calls Tryz.prog 39 #[rv r] w fun e w' => e = .returned (.string (ba (writeQ r))) ∧ Below w.heap.size w w' := by
  obtain ⟨al, i, o, k, v⟩ := r
  have e1 : ((ba k).toList == [97, 108, 108]) = (k == wAll) := ba_eq _ _
  have HL : Hid (k.length + v.length ≤ 281474976710000) := hz
  obtain ⟨W, HW⟩ : ∃ W, Hid (writeQ ⟨al, i, o, k, v⟩ = W) := ⟨_, rfl⟩
  rw [HW.out]
  have HR : Hid (RuAt (w.alloc (.cells (rc ⟨al, i, o, k, v⟩) 72)) w.heap.size ⟨al, i, o, k, v⟩ ∧ Below w.heap.size w (w.alloc (.cells (rc ⟨al, i, o, k, v⟩) 72))) := ⟨push_at _ _ rfl, below1 _ _⟩
  clear hz
  have HW2 := HW.out
  unfold writeQ headQ wayQ at HW2
  replace HW2 : Hid _ := HW2
  clear HW
  show Calls _ _ #[.agg (rc _)] _ _
  unfold rc
  unfold rc at HR
  generalize hb : (k == wAll) = b at *
  clear hb
  cases al <;> cases i <;> cases o <;> cases b
  all_goals
    go_enter Tryz.func39, Tryz.ntmps39
    go_upto_region 1 with fail
    generalize w.alloc _ = X at HR ⊢
    have u0 := HR.out.1.c0
    have u1 := HR.out.1.c1
    have u2 := HR.out.1.c2
    have u3 := HR.out.1.c3
    have u4 := HR.out.1.c4
    go_wp2_with (refine wp_addB rfl rfl _ _ rfl rfl (by have := HL.out; simp only [List.length_append, List.length_cons, List.length_nil]; omega) ?_)
    go_ret
    refine ⟨?_, HR.out.2⟩
    rw [← HW2.out]
    simp [wAllow, wDeny, wBoth, wIn, wOut]
end Go.Proofs.YtiplalbicibahaaGreatDoor

/- privacy: what rules Parse may tell; lists within bounds; rows of names behind a put and a drop (pure). -/
set_option maxRecDepth 100000
namespace Go.Proofs.YtiplalbicibahaaGreatDoor
open Go.RowKit Go.Joins Go.Shelf

/-! ### how long what is prepared is -/
theorem eachLen (step : Int → Int → Option Int) : ∀ (n : Nat) (st : Int) (l bs : List UInt8) (st' : Int), l.length ≤ n → Nm.each step st l = some (bs, st') → bs.length ≤ 4 * l.length
  | n, st, [], bs, st', _, h => by
    rw [Nm.each_nil] at h; cases h; simp
  | 0, st, b :: t, bs, st', hn, _ => by simp at hn
  | n + 1, st, b :: t, bs, st', hn, h => by
    rw [Nm.each_step step st _ (by simp)] at h
    cases hs : step st ((Lib.decodeL (b :: t)).1 : Int) with
    | none => rw [hs] at h; cases h
    | some r =>
      simp only [hs] at h
      have hw := Lib.decodeL_width (b :: t)
      have hl : ((b :: t).drop (Lib.decodeL (b :: t)).2).length ≤ n := by rw [List.length_drop]; omega
      cases he : Nm.each step r ((b :: t).drop (Lib.decodeL (b :: t)).2) with
      | none => simp only [he] at h; cases h
      | some p =>
        obtain ⟨bs2, st2⟩ := p
        simp only [he] at h
        cases h
        have ih := eachLen step n r _ _ _ hl he
        have h4 := Lib.runeCells_le r
        rw [Lib.runeCells_length] at h4
        rw [List.length_drop] at ih
        rw [List.length_append]
        simp at ih ⊢
        omega
theorem localLen (l : By) : (Nm.localN l).1.length ≤ 256 := by
  unfold Nm.localN Nm.prep
  split
  · simp
  · rename_i h64
    split
    · simp
    · split
      · simp
      · rename_i bs st he
        have := eachLen _ _ _ _ _ _ (Nat.le_refl _) he
        rw [if_pos rfl]
        show bs.length ≤ 256; omega

/-! ### rules -/
def RulN (r : Rul) : Prop := okRul r ∧ (r.i || r.o) = true ∧ r.k.length + r.v.length ≤ 300
theorem nameE_len {l : By} (h : nameE l = 0) : l.length ≤ 64 := by
  unfold nameE at h
  split at h
  · cases h
  · omega
theorem value_ok {k l : By} (h : (valueR k l).2 = 0) : (k = wJid ∨ k = wGroup ∨ (k = wSub ∧ isSubB (valueR k l).1 = true)) ∧ k.length ≤ 5 ∧ (valueR k l).1.length ≤ 256 := by
  unfold valueR at h ⊢
  by_cases h1 : (k == wJid) = true
  · rw [if_pos h1]
    have := beq_iff_eq.1 h1
    subst this
    exact ⟨Or.inl rfl, by decide, localLen _⟩
  · rw [if_neg h1] at h ⊢
    by_cases h2 : (k == wGroup) = true
    · rw [if_pos h2] at h ⊢
      have := beq_iff_eq.1 h2
      subst this
      by_cases h3 : nameE l = 0
      · rw [if_pos h3]
        have := nameE_len h3
        exact ⟨Or.inr (Or.inl rfl), by decide, by show l.length ≤ 256; omega⟩
      · rw [if_neg h3] at h; exact absurd h h3
    · rw [if_neg h2] at h ⊢
      by_cases h3 : (k == wSub && isSubB l) = true
      · rw [if_pos h3]
        simp only [Bool.and_eq_true, beq_iff_eq] at h3
        have := (sub_short h3.2).2
        obtain ⟨rfl, h4⟩ := h3
        exact ⟨Or.inr (Or.inr ⟨rfl, h4⟩), by decide, by show l.length ≤ 256; omega⟩
      · rw [if_neg h3] at h; cases h
theorem whom_ok {l : By} (h : (whomR l).2.2 = 0) : ((whomR l).1 = wAll ∨ (whomR l).1 = wJid ∨ (whomR l).1 = wGroup ∨ ((whomR l).1 = wSub ∧ isSubB (whomR l).2.1 = true)) ∧ (whomR l).1.length + (whomR l).2.1.length ≤ 300 := by
  unfold whomR at h ⊢
  by_cases h1 : (l == wAll) = true
  · rw [if_pos h1]; exact ⟨Or.inl rfl, by decide⟩
  · rw [if_neg h1] at h ⊢
    by_cases h2 : Nm.hasB 32 l = true
    · rw [if_pos h2] at h ⊢
      by_cases h3 : (valueR (Nm.cutA 32 l) (Nm.cutZ 32 l)).2 = 0
      · rw [if_pos h3]
        obtain ⟨a, b, c⟩ := value_ok h3
        exact ⟨Or.inr a, by show (Nm.cutA 32 l).length + (valueR (Nm.cutA 32 l) (Nm.cutZ 32 l)).1.length ≤ 300; omega⟩
      · rw [if_neg h3] at h; exact absurd h h3
    · rw [if_neg h2] at h; cases h
theorem parse_ok {l : By} (h : (parseR l).2 = 0) : RulN (parseR l).1 := by
  have hw := way_ok h
  refine ⟨?_, hw, ?_⟩
  all_goals
    unfold parseR at h ⊢
    split at h
    · rename_i h1
      rw [if_pos h1]
      split at h
      · rename_i h2
        rw [if_pos h2]
        split at h
        · rename_i h3
          rw [if_pos h3]
          first | exact (whom_ok h3).1 | exact (whom_ok h3).2
        · rename_i h3; exact absurd h h3
      · rename_i h2; exact absurd h h2
    · rename_i h1; exact absurd h h1
theorem read_ok : ∀ {ts : List By}, (readR ts).2 = 0 → ∀ r ∈ (readR ts).1, RulN r
  | [], _, r, hr => by cases hr
  | t :: ts, h, r, hr => by
    rw [readR] at h hr
    by_cases h1 : (parseR t).2 = 0
    · rw [if_pos h1] at h hr
      by_cases h2 : (readR ts).2 = 0
      · rw [if_pos h2] at hr
        rcases List.mem_cons.1 hr with e | e
        · rw [e]; exact parse_ok h1
        · exact read_ok h2 r e
      · rw [if_neg h2] at h; exact absurd h h2
    · rw [if_neg h1] at h; exact absurd h h1
theorem RulN.same {r : Rul} (h : RulN r) : writeQ r = writtenR r := write_same h.2.1

/-! ### lists within bounds -/
structure Nice (P : Pl) (n : Nat) : Prop where
  kn : P.ks.length ≤ n
  us : P.us.length ≤ 80
  nm : ∀ k ∈ P.ks, k.length ≤ 80
  rl : ∀ k, ((P.m k).getD []).length ≤ 20
  rz : ∀ k, ∀ r ∈ (P.m k).getD [], RulN r
theorem Nice.zero (l r : Int) : Nice (pl0 l r) 0 := ⟨Nat.le_refl _, Nat.zero_le _, (fun k h => by cases h), (fun k => Nat.zero_le _), (fun k r h => by cases h)⟩
theorem Nice.mono {P : Pl} {n m : Nat} (h : Nice P n) (hm : n ≤ m) : Nice P m := ⟨by have := h.kn; omega, h.us, h.nm, h.rl, h.rz⟩
theorem Nice.put {P : Pl} {n : Nat} (h : Nice P n) (s : By) (rs : List Rul) (hs : s.length ≤ 80) (hl : rs.length ≤ 20) (hr : ∀ r ∈ rs, RulN r) : Nice (putP P s rs) (n + 1) := by
  unfold putP
  refine ⟨?_, h.us, fun k hk => ?_, fun k => ?_, fun k => ?_⟩
  · have := h.kn
    dsimp only
    split
    · omega
    · rw [List.length_cons]; omega
  · dsimp only at hk
    split at hk
    · exact h.nm k hk
    · rcases List.mem_cons.1 hk with e | e
      · rw [e]; exact hs
      · exact h.nm k e
  · dsimp only
    by_cases hk : k = s
    · subst hk; rw [putM_same]; exact hl
    · rw [putM_other _ _ hk]; exact h.rl k
  · dsimp only
    by_cases hk : k = s
    · subst hk; rw [putM_same]; exact hr
    · rw [putM_other _ _ hk]; exact h.rz k
theorem Nice.set {P : Pl} {n : Nat} (h : Nice P n) (s : By) (ts : List By) (hs : s.length ≤ 80) (ht : ts.length ≤ 20) : Nice (setR P s ts).2 (n + 1) := by
  unfold setR
  split
  · exact h.mono (by omega)
  · split
    · exact h.mono (by omega)
    · rename_i h2
      have h2 : (readR ts).2 = 0 := by omega
      split
      · exact h.mono (by omega)
      · exact h.put s _ hs (by rw [readR_le ts h2]; exact ht) (read_ok h2)
theorem Nice.drop {P : Pl} {n : Nat} (h : Nice P n) (s : By) : Nice (dropR P s).2 n := by
  unfold dropR
  split
  · exact h
  · split
    · exact h
    · refine ⟨?_, h.us, fun k hk => h.nm k (List.mem_filter.1 hk).1, fun k => ?_, fun k => ?_⟩
      · have := List.length_filter_le (fun k => !(k == s)) P.ks
        have := h.kn
        show (dropK P.ks s).length ≤ n
        unfold dropK
        omega
      · unfold dropP
        dsimp only
        by_cases hk : k = s
        · subst hk; rw [putM_same]; exact Nat.zero_le _
        · rw [putM_other _ _ hk]; exact h.rl k
      · unfold dropP
        dsimp only
        by_cases hk : k = s
        · subst hk; rw [putM_same]; intro r hr; cases hr
        · rw [putM_other _ _ hk]; exact h.rz k
theorem Nice.usual {P : Pl} {n : Nat} (h : Nice P n) (s : By) (hs : s.length ≤ 80) : Nice (defaultR P s).2 n := by
  unfold defaultR
  split
  · exact h
  · exact ⟨h.kn, hs, h.nm, h.rl, h.rz⟩
theorem Nice.held {P : Pl} {n : Nat} (h : Nice P n) (s : By) : (heldR P s).length ≤ 20 ∧ ∀ r ∈ heldR P s, RulN r := ⟨h.rl _, h.rz _⟩

/-! ### how the names, texts and rules stand behind a put and a drop -/
theorem at_split {ns : List By} {s : By} (h : Asc ns) (hs : s ∈ ns) : ns = ns.take (atK ns s) ++ s :: ns.drop (atK ns s + 1) := by
  have hat := at_head ((at_mem h).2 hs)
  have e := List.getElem?_eq_some_iff.1 hat.2
  have e2 := (List.take_append_drop (atK ns s) ns).symm
  rw [List.drop_eq_getElem_cons hat.1, e.2] at e2
  exact e2
theorem split_not {ns : List By} {s : By} (h : Asc ns) (hs : s ∈ ns) : s ∉ ns.take (atK ns s) ∧ s ∉ ns.drop (atK ns s + 1) := by
  have hnd := asc_nodup h
  rw [at_split h hs] at hnd
  have h2 := List.nodup_append.1 hnd
  exact ⟨fun e => h2.2.2 s e s (List.mem_cons_self ..) rfl, (List.nodup_cons.1 h2.2.1).1⟩
theorem map_other {α : Type} (f g : By → α) (s : By) (hfg : ∀ k, k ≠ s → g k = f k) : ∀ (l : List By), s ∉ l → l.map g = l.map f := fun l h =>
  List.map_congr_left (fun k hk => hfg k (fun e => h (by rw [← e]; exact hk)))
/-- A name that is there: its place is turned. -/
theorem map_set {α : Type} (f g : By → α) {ns : List By} {s : By} (h : Asc ns) (hs : s ∈ ns) (hfg : ∀ k, k ≠ s → g k = f k) : ns.map g = (ns.map f).set (atK ns s) (g s) := by
  have hn := split_not h hs
  have hat := at_head ((at_mem h).2 hs)
  have e : ∀ φ : By → α, ns.map φ = (ns.take (atK ns s)).map φ ++ φ s :: (ns.drop (atK ns s + 1)).map φ := fun φ => by
    conv => lhs; rw [at_split h hs]
    rw [List.map_append, List.map_cons]
  have hl : ((ns.take (atK ns s)).map f).length = atK ns s := by rw [List.length_map, List.length_take]; omega
  rw [e g, e f, map_other f g s hfg _ hn.1, map_other f g s hfg _ hn.2]
  generalize (ns.take (atK ns s)).map f = A at *
  generalize (ns.drop (atK ns s + 1)).map f = Z at *
  generalize atK ns s = k at *
  subst hl
  rw [List.set_append_right _ _ (Nat.le_refl _), Nat.sub_self]
  rfl
theorem map_put {α : Type} (f g : By → α) {ns : List By} {s : By} (hs : s ∉ ns) (hfg : ∀ k, k ≠ s → g k = f k) : (ns.take (atK ns s) ++ [s] ++ ns.drop (atK ns s)).map g = (ns.map f).take (atK ns s) ++ [g s] ++ (ns.map f).drop (atK ns s) := by
  rw [List.map_append, List.map_append, map_other f g s hfg _ (fun e => hs (List.mem_of_mem_take e)), map_other f g s hfg _ (fun e => hs (List.mem_of_mem_drop e)), List.map_take, List.map_drop]
  rfl
theorem map_drop {α : Type} (f g : By → α) {ns : List By} {s : By} (h : Asc ns) (hs : s ∈ ns) (hfg : ∀ k, k ≠ s → g k = f k) : (ns.take (atK ns s) ++ ns.drop (atK ns s + 1)).map g = (ns.map f).take (atK ns s) ++ (ns.map f).drop (atK ns s + 1) := by
  have hn := split_not h hs
  rw [List.map_append, map_other f g s hfg _ hn.1, map_other f g s hfg _ hn.2, List.map_take, List.map_drop]
theorem putP_texts (P : Pl) (s : By) (rs : List Rul) : ∀ k, k ≠ s → textsK (putP P s rs) k = textsK P k := fun k hk => by
  unfold textsK putP; dsimp only; rw [putM_other _ _ hk]
theorem putP_self (P : Pl) (s : By) (rs : List Rul) : textsK (putP P s rs) s = rs.map writtenR := by
  unfold textsK putP; dsimp only; rw [putM_same]; rfl
theorem putP_rules (P : Pl) (s : By) (rs : List Rul) : ∀ k, k ≠ s → ((putP P s rs).m k).getD [] = (P.m k).getD [] := fun k hk => by
  unfold putP; dsimp only; rw [putM_other _ _ hk]
theorem putP_mine (P : Pl) (s : By) (rs : List Rul) : ((putP P s rs).m s).getD [] = rs := by
  unfold putP; dsimp only; rw [putM_same]; rfl
theorem dropP_texts (P : Pl) (s : By) : ∀ k, k ≠ s → textsK (dropP P s) k = textsK P k := fun k hk => by
  unfold textsK dropP; dsimp only; rw [putM_other _ _ hk]
theorem dropP_rules (P : Pl) (s : By) : ∀ k, k ≠ s → ((dropP P s).m k).getD [] = (P.m k).getD [] := fun k hk => by
  unfold dropP; dsimp only; rw [putM_other _ _ hk]
end Go.Proofs.YtiplalbicibahaaGreatDoor

/- privacy: slices of values of one cell each; cut, appended. -/
set_option maxRecDepth 100000
namespace Go.Proofs.YtiplalbicibahaaGreatDoor
open Go.RowKit Go.Joins Go.Shelf

structure VRd (w : World) (a : Option Addr) (n c : Nat) (xs : List Value) : Prop where
  len : xs.length = n
  cap : n ≤ c
  most : c ≤ maxLen
  flat : 0 < n → ∃ b off, a = some ⟨b, off, none⟩ ∧ ∀ j u, xs[j]? = some u → w.cell? ⟨b, off + j, none⟩ = some u
  nil0 : a = none → c = 0
theorem VRd.keep {S : Nat → Prop} {w w' : World} {a : Option Addr} {n c : Nat} {xs : List Value} (h : VRd w a n c xs) (hk : Keep S w w') (hs : ∀ ad, a = some ad → ¬ S ad.block) : VRd w' a n c xs := by
  refine ⟨h.len, h.cap, h.most, fun h0 => ?_, h.nil0⟩
  obtain ⟨b, off, e, hc⟩ := h.flat h0
  exact ⟨b, off, e, fun j u hj => hk.cell (p := ⟨b, off + j, none⟩) (hc j u hj) (hs ⟨b, off, none⟩ e)⟩
theorem VRd.below {w w' : World} {a : Option Addr} {n c : Nat} {xs : List Value} (h : VRd w a n c xs) (hb : Below w.heap.size w w') : VRd w' a n c xs := h.keep (S := fun _ => False) (Keep.ofBelow hb) (fun _ _ h => h)
theorem VRd.ofOwn {w : World} {base : Nat} {e : TypeId} {v : Value} {n : Nat} {xs : List Value} (h : w.ownsRow base e 1 v n xs) : ∃ a c, v = .slice a n c ∧ VRd w a n c xs := by
  have hl : xs.length = n := by have := h.1; omega
  rcases h.2 with ⟨hv, hn⟩ | ⟨g, cap, cur, hv, hg, hh, hnc, hm, hsz, ht⟩
  · subst hv; subst hn
    exact ⟨none, 0, rfl, hl, Nat.le_refl _, Nat.zero_le _, fun h => by omega, fun _ => rfl⟩
  · subst hv
    refine ⟨some ⟨g, 0, none⟩, cap, rfl, hl, hnc, hm, fun h0 => ⟨g, 0, rfl, fun j u hj => ?_⟩, fun e => by cases e⟩
    have hcell := h.cells (g := g) rfl j u hj
    rw [add_flat] at hcell
    exact hcell
theorem VRd.take {w : World} {a : Option Addr} {n c : Nat} {xs : List Value} (h : VRd w a n c xs) (k : Nat) (hk : k ≤ n) : VRd w a k c (xs.take k) := by
  refine ⟨by rw [List.length_take, h.len]; omega, by have := h.cap; omega, h.most, fun h0 => ?_, h.nil0⟩
  obtain ⟨b, off, e, hc⟩ := h.flat (by omega)
  refine ⟨b, off, e, fun j u hj => hc j u ?_⟩
  rw [List.getElem?_take] at hj
  split at hj
  · exact hj
  · cases hj
theorem VRd.drop {w : World} {a : Option Addr} {n c : Nat} {xs : List Value} (h : VRd w a n c xs) (k : Nat) (hk : k ≤ n) : VRd w (if c = k then a else a.map (·.add k)) (n - k) (c - k) (xs.drop k) := by
  have hm := h.most
  have hcp := h.cap
  refine ⟨by rw [List.length_drop, h.len], by omega, by omega, fun h0 => ?_, fun e => ?_⟩
  · obtain ⟨b, off, e, hc⟩ := h.flat (by omega)
    subst e
    refine ⟨b, off + k, ?_, fun j u hj => ?_⟩
    · rw [if_neg (by omega)]; show some (Addr.add _ _) = _; rw [add_flat]
    · have := hc (k + j) u (by rw [← List.getElem?_drop]; exact hj)
      rw [show off + k + j = off + (k + j) by omega]
      exact this
  · split at e
    · have := h.nil0 e; omega
    · cases ha : a with
      | none => have := h.nil0 ha; omega
      | some ad => rw [ha] at e; cases e

/-- 'append(v, x...)' of one's own row and whatever slice. -/
theorem run_appV (t e : TypeId) (z : Value) (bytes : Nat) (ht : Tryz.prog.underlying t = some (.slice e)) (hif : (Tryz.prog.info? e).map (fun i => (i.zero, i.size, i.bytes)) = some (some z, 1, bytes)) (hby : bytes ≤ 100) (hzs : z.cells.size = 1) {w : World} (ty : TypeId) {base : Nat} {v : Value} {n : Nat} {xs : List Value} (hown : w.ownsRow base e 1 v n xs) {ao : Option Addr} {m c : Nat} {ys : List Value} (hr : VRd w ao m c ys) (h1 : ∀ u ∈ ys, u.oneCell' = true) (hb : n + m ≤ 1000000) (hbase : base ≤ w.heap.size) :
    ∃ v' w', (Builtin.append_ #[t, t] ty #[v, .slice ao m c]).run Tryz.prog w = .ok v' w' ∧ w'.ownsRow base e 1 v' (n + m) (xs ++ ys) ∧ Keep (fun k => v.ownBlock = some k) w w' := by
  obtain ⟨i0, hi, hz0, hz1, hz2⟩ := info_parts hif
  cases ao with
  | none =>
    have hc0 := hr.nil0 rfl
    have hm : m = 0 := by have := hr.cap; omega
    subst hc0 hm
    have hys : ys = [] := List.eq_nil_of_length_eq_zero hr.len
    subst hys
    exact ⟨v, w, run_append_owned_none w base t ty e i0 1 ht hi v n xs hown, by simpa using hown, Keep.refl _ _⟩
  | some ad =>
    have hnew : ∀ j u, ys[j]? = some u → w.cell? (ad.add j) = some u := fun j u hu => by
      have hj : j < ys.length := (List.getElem?_eq_some_iff.1 hu).1
      obtain ⟨b, off, e, hc⟩ := hr.flat (by rw [← hr.len]; omega)
      injection e with e
      subst e
      rw [add_flat]
      exact hc j u hu
    have hb2 : (n + m) * bytes ≤ 1000000 * 100 := Nat.mul_le_mul hb hby
    obtain ⟨v', w', k0, k1, k2, _⟩ := run_append_own (P := Tryz.prog) w base t ty e i0 z 1 bytes ht hi hz0 hz1 hz2 hzs (by decide) v n xs hown ad m c ys (by rw [hr.len]; omega) hnew h1 (by unfold maxLen; omega) (by omega) hbase
    exact ⟨v', w', k0, k1, Keep.ofGrown k2⟩
theorem infoRulesG : (Tryz.prog.info? 68).map (fun i => (i.zero, i.size, i.bytes)) = some (some (.slice none 0 0), 1, 24) := by kernel_rfl
/-- Rows of values of two types lie in two blocks. -/
theorem own_apart {w : World} {b1 b2 z1 z2 : Nat} {e1 e2 : TypeId} {v1 v2 : Value} {n1 n2 : Nat} {x1 x2 : List Value} (h1 : w.ownsRow b1 e1 z1 v1 n1 x1) (h2 : w.ownsRow b2 e2 z2 v2 n2 x2) (he : e1 ≠ e2) : ∀ k, v1.ownBlock = some k → v2.ownBlock ≠ some k := by
  intro k hk1 hk2
  rcases h1.2 with ⟨rfl, _⟩ | ⟨g, cap, cur, rfl, _, hh, _⟩
  · cases hk1
  · rcases h2.2 with ⟨rfl, _⟩ | ⟨g2, cap2, cur2, rfl, _, hh2, _⟩
    · cases hk2
    · injection hk1 with hk1
      injection hk2 with hk2
      subst hk1 hk2
      have hh : w.heap[g2]? = some (.cells cur e1 (0, 0)) := hh
      rw [hh2] at hh
      injection hh with hh
      injection hh with _ t2 _
      exact he t2.symm
theorem own_notq {w : World} {b1 : Nat} {e1 : TypeId} {v1 : Value} {n1 : Nat} {x1 : List Value} (h1 : w.ownsRow b1 e1 1 v1 n1 x1) {q : Nat} {cs : Array Value} {e2 : TypeId} (hq : w.heap[q]? = some (.cells cs e2 (0, 0))) (he : e1 ≠ e2) : v1.ownBlock ≠ some q := by
  intro hk1
  rcases h1.2 with ⟨rfl, _⟩ | ⟨g, cap, cur, rfl, _, hh, _⟩
  · cases hk1
  · injection hk1 with hk1
    subst hk1
    have hh : w.heap[g]? = some (.cells cur e1 (0, 0)) := hh
    rw [hq] at hh
    injection hh with hh
    injection hh with _ t2 _
    exact he t2.symm

/-! ### rows of rows: cut, joined, turned in place -/
theorem Vr.app {w : World} {vs ws : List Value} {tss uss : List (List By)} {F : Nat → Prop} (h : Vr w vs tss F) (g : Vr w ws uss F) : Vr w (vs ++ ws) (tss ++ uss) F := by
  refine ⟨by simp [h.len, g.len], fun j v hv => ?_⟩
  by_cases hj : j < vs.length
  · rw [List.getElem?_append_left hj] at hv
    obtain ⟨a2, n2, c2, e, ht2, hf2⟩ := h.row j v hv
    refine ⟨a2, n2, c2, e, ?_, hf2⟩
    rw [List.getD_eq_getElem?_getD, List.getElem?_append_left (by rw [← h.len]; exact hj), ← List.getD_eq_getElem?_getD]
    exact ht2
  · rw [List.getElem?_append_right (by omega)] at hv
    obtain ⟨a2, n2, c2, e, ht2, hf2⟩ := g.row _ v hv
    refine ⟨a2, n2, c2, e, ?_, hf2⟩
    rw [List.getD_eq_getElem?_getD, List.getElem?_append_right (by rw [← h.len]; omega), ← h.len, ← List.getD_eq_getElem?_getD]
    exact ht2
theorem Vr.take {w : World} {vs : List Value} {tss : List (List By)} {F : Nat → Prop} (h : Vr w vs tss F) (k : Nat) : Vr w (vs.take k) (tss.take k) F := by
  refine ⟨by simp [h.len], fun j v hv => ?_⟩
  rw [List.getElem?_take] at hv
  split at hv
  · rename_i hj
    obtain ⟨a2, n2, c2, e, ht2, hf2⟩ := h.row j v hv
    refine ⟨a2, n2, c2, e, ?_, hf2⟩
    rw [List.getD_eq_getElem?_getD, List.getElem?_take, if_pos hj, ← List.getD_eq_getElem?_getD]
    exact ht2
  · cases hv
theorem Vr.drop {w : World} {vs : List Value} {tss : List (List By)} {F : Nat → Prop} (h : Vr w vs tss F) (k : Nat) : Vr w (vs.drop k) (tss.drop k) F := by
  refine ⟨by simp [h.len], fun j v hv => ?_⟩
  rw [List.getElem?_drop] at hv
  obtain ⟨a2, n2, c2, e, ht2, hf2⟩ := h.row _ v hv
  refine ⟨a2, n2, c2, e, ?_, hf2⟩
  rw [List.getD_eq_getElem?_getD, List.getElem?_drop, ← List.getD_eq_getElem?_getD]
  exact ht2
theorem Vr.one {w : World} {F : Nat → Prop} {a : Option Addr} {n c : Nat} {ts : List By} (ht : TRd w a n c ts) (hf : ∀ ad, a = some ad → F ad.block) : Vr w [.slice a n c] [ts] F := by
  have := (Vr.nil w F).snoc ht hf
  exact this
theorem Vr.set {w : World} {vs : List Value} {tss : List (List By)} {F : Nat → Prop} (h : Vr w vs tss F) (k : Nat) {a : Option Addr} {n c : Nat} {ts : List By} (ht : TRd w a n c ts) (hf : ∀ ad, a = some ad → F ad.block) : Vr w (vs.set k (.slice a n c)) (tss.set k ts) F := by
  refine ⟨by simp [h.len], fun j v hv => ?_⟩
  by_cases hj : j = k
  · subst hj
    have hl : j < vs.length := by have := (List.getElem?_eq_some_iff.1 hv).1; simpa using this
    rw [List.getElem?_set_self hl] at hv
    injection hv with hv
    refine ⟨a, n, c, hv.symm, ?_, hf⟩
    rw [List.getD_eq_getElem?_getD, List.getElem?_set_self (by rw [← h.len]; exact hl)]
    exact ht
  · rw [List.getElem?_set_ne (fun e => hj e.symm)] at hv
    obtain ⟨a2, n2, c2, e, ht2, hf2⟩ := h.row j v hv
    refine ⟨a2, n2, c2, e, ?_, hf2⟩
    rw [List.getD_eq_getElem?_getD, List.getElem?_set_ne (fun e => hj e.symm), ← List.getD_eq_getElem?_getD]
    exact ht2
theorem Vq.app {w : World} {vs ws : List Value} {tss uss : List (List Rul)} {F : Nat → Prop} (h : Vq w vs tss F) (g : Vq w ws uss F) : Vq w (vs ++ ws) (tss ++ uss) F := by
  refine ⟨by simp [h.len, g.len], fun j v hv => ?_⟩
  by_cases hj : j < vs.length
  · rw [List.getElem?_append_left hj] at hv
    obtain ⟨f, e, ht2, hf2⟩ := h.row j v hv
    refine ⟨f, e, ?_, hf2⟩
    rw [List.getD_eq_getElem?_getD, List.getElem?_append_left (by rw [← h.len]; exact hj), ← List.getD_eq_getElem?_getD]
    exact ht2
  · rw [List.getElem?_append_right (by omega)] at hv
    obtain ⟨f, e, ht2, hf2⟩ := g.row _ v hv
    refine ⟨f, e, ?_, hf2⟩
    rw [List.getD_eq_getElem?_getD, List.getElem?_append_right (by rw [← h.len]; omega), ← h.len, ← List.getD_eq_getElem?_getD]
    exact ht2
theorem Vq.take {w : World} {vs : List Value} {tss : List (List Rul)} {F : Nat → Prop} (h : Vq w vs tss F) (k : Nat) : Vq w (vs.take k) (tss.take k) F := by
  refine ⟨by simp [h.len], fun j v hv => ?_⟩
  rw [List.getElem?_take] at hv
  split at hv
  · rename_i hj
    obtain ⟨f, e, ht2, hf2⟩ := h.row j v hv
    refine ⟨f, e, ?_, hf2⟩
    rw [List.getD_eq_getElem?_getD, List.getElem?_take, if_pos hj, ← List.getD_eq_getElem?_getD]
    exact ht2
  · cases hv
theorem Vq.drop {w : World} {vs : List Value} {tss : List (List Rul)} {F : Nat → Prop} (h : Vq w vs tss F) (k : Nat) : Vq w (vs.drop k) (tss.drop k) F := by
  refine ⟨by simp [h.len], fun j v hv => ?_⟩
  rw [List.getElem?_drop] at hv
  obtain ⟨f, e, ht2, hf2⟩ := h.row _ v hv
  refine ⟨f, e, ?_, hf2⟩
  rw [List.getD_eq_getElem?_getD, List.getElem?_drop, ← List.getD_eq_getElem?_getD]
  exact ht2
theorem Vq.one {w : World} {F : Nat → Prop} {f : Rw} {rs : List Rul} (ht : RRd w f rs) (hf : ∀ g, f.1 = some g → F g) : Vq w [rsl f] [rs] F := by
  refine ⟨rfl, fun j v hv => ?_⟩
  cases j with
  | zero => injection hv with hv; exact ⟨f, hv.symm, ht, hf⟩
  | succ j => cases hv
theorem Vq.set {w : World} {vs : List Value} {tss : List (List Rul)} {F : Nat → Prop} (h : Vq w vs tss F) (k : Nat) {f : Rw} {rs : List Rul} (ht : RRd w f rs) (hf : ∀ g, f.1 = some g → F g) : Vq w (vs.set k (rsl f)) (tss.set k rs) F := by
  refine ⟨by simp [h.len], fun j v hv => ?_⟩
  by_cases hj : j = k
  · subst hj
    have hl : j < vs.length := by have := (List.getElem?_eq_some_iff.1 hv).1; simpa using this
    rw [List.getElem?_set_self hl] at hv
    injection hv with hv
    refine ⟨f, hv.symm, ?_, hf⟩
    rw [List.getD_eq_getElem?_getD, List.getElem?_set_self (by rw [← h.len]; exact hl)]
    exact ht
  · rw [List.getElem?_set_ne (fun e => hj e.symm)] at hv
    obtain ⟨f2, e, ht2, hf2⟩ := h.row j v hv
    refine ⟨f2, e, ?_, hf2⟩
    rw [List.getD_eq_getElem?_getD, List.getElem?_set_ne (fun e => hj e.symm), ← List.getD_eq_getElem?_getD]
    exact ht2
theorem Vr.one' {w : World} {vs : List Value} {tss : List (List By)} {F : Nat → Prop} (h : Vr w vs tss F) : ∀ u ∈ vs, u.oneCell' = true := fun u hu => by
  obtain ⟨j, hj⟩ := List.mem_iff_getElem?.1 hu
  obtain ⟨a, n, c, rfl, _⟩ := h.row j u hj
  rfl
theorem Vq.one' {w : World} {vs : List Value} {tss : List (List Rul)} {F : Nat → Prop} (h : Vq w vs tss F) : ∀ u ∈ vs, u.oneCell' = true := fun u hu => by
  obtain ⟨j, hj⟩ := List.mem_iff_getElem?.1 hu
  obtain ⟨f, rfl, _⟩ := h.row j u hj
  rfl
end Go.Proofs.YtiplalbicibahaaGreatDoor

/- privacy: the document's put. -/
set_option maxRecDepth 100000
namespace Go.Proofs.YtiplalbicibahaaGreatDoor
open Go.RowKit Go.Joins Go.Shelf

theorem exec_appV {w w' : World} {o : Oper} {ρ : Operand → Value} {s x : Operand} {t : TypeId} {v u v' : Value} (ho : o.op = .call { callee := .builtin .append, args := #[s, x], argTypes := #[t, t] }) (hs : ρ s = v) (hx : ρ x = u)
    (hrun : (Builtin.append_ #[t, t] o.type #[v, u]).run Tryz.prog w = .ok v' w') : (execOp ρ o).run Tryz.prog w = .ok (.value v') w' := exec_appG ho hs hx hrun
/-- 'append(s, x...)' at its place. -/
theorem wp_appV (t e : TypeId) (z : Value) (bytes : Nat) (ht : Tryz.prog.underlying t = some (.slice e)) (hif : (Tryz.prog.info? e).map (fun i => (i.zero, i.size, i.bytes)) = some (some z, 1, bytes)) (hby : bytes ≤ 100) (hzs : z.cells.size = 1) {w : World} {ops : Array Oper} {rest : List Oper} {o : Oper} {a : Act} {Q : Exit → Act → World → Prop} (hgd : o.guard = none) (s x : Operand)
    (ho : o.op = .call { callee := .builtin .append, args := #[s, x], argTypes := #[t, t] })
    (base : Nat) (v : Value) (n : Nat) (xs : List Value) (hs : a.eval s = v) (hown : w.ownsRow base e 1 v n xs) (ao : Option Addr) (m c : Nat) (ys : List Value) (hx : a.eval x = .slice ao m c) (hr : VRd w ao m c ys) (h1 : ∀ u ∈ ys, u.oneCell' = true) (hb : n + m ≤ 1000000) (hbase : base ≤ w.heap.size)
    (h : ∀ v' w', w'.ownsRow base e 1 v' (n + m) (xs ++ ys) → Keep (fun k => v.ownBlock = some k) w w' → wpList Tryz.prog ops Q rest (a.put o.dst v') w') : wpList Tryz.prog ops Q (o :: rest) a w := by
  refine wpList_plain hgd fun K hK => ?_
  obtain ⟨v', w', hrun, h2, h3⟩ := run_appV t e z bytes ht hif hby hzs o.type hown hr h1 hb hbase
  unfold Oper.wp
  simp only [execOp, ho, resolve, invoke, builtin, Sem.run_bind, Sem.run_pure, Result.andThen_ok, List.map_toArray, List.map_cons, List.map_nil, hs, hx, hrun]
  exact hK _ _ (h v' w' h2 h3)

/-- Halfway through put: the rows that are made, the rows that Lists hold now. -/
structure Mid (B : Nat) (w x : World) (q : Nat) (P : Pl) (cN cT cR nN nT nR : Value) (N : List By) (T R : List Value) : Prop where
  blk : x.heap[q]? = some (.cells (qlc P cN cT cR) 57 (0, 0))
  oN : x.ownsRow B 9 1 nN N.length (tc N)
  oT : x.ownsRow B 32 1 nT T.length T
  oR : x.ownsRow B 68 1 nR R.length R
  kp : Keep (fun i => i = q) w x
  hB : w.heap.size = B
  hq : q < B
section
variable {B : Nat} {w x x' : World} {q : Nat} {P : Pl} {cN cT cR nN nT nR v' : Value} {N N' : List By} {T R L : List Value}
theorem Mid.sz (m : Mid B w x q P cN cT cR nN nT nR N T R) : B ≤ x.heap.size := by have := m.kp.size; have := m.hB; omega
theorem Mid.start {F : Nat → Prop} {vs us : List Value} (h : QM w F q P cN cT cR vs us) (hB : w.heap.size = B) : Mid B w w q P cN cT cR (.slice none 0 0) (.slice none 0 0) (.slice none 0 0) [] [] [] :=
  ⟨h.blk, World.ownsRow_nil .., World.ownsRow_nil .., World.ownsRow_nil .., Keep.refl _ _, hB, by rw [← hB]; exact h.lt q h.fq⟩
theorem Mid.c3 (m : Mid B w x q P cN cT cR nN nT nR N T R) : x.cell? ⟨q, 3, none⟩ = some cN := by rw [cell_of_block m.blk]; rfl
theorem Mid.c4 (m : Mid B w x q P cN cT cR nN nT nR N T R) : x.cell? ⟨q, 4, none⟩ = some cT := by rw [cell_of_block m.blk]; rfl
theorem Mid.c5 (m : Mid B w x q P cN cT cR nN nT nR N T R) : x.cell? ⟨q, 5, none⟩ = some cR := by rw [cell_of_block m.blk]; rfl
theorem Mid.fz (m : Mid B w x q P cN cT cR nN nT nR N T R) (i : Nat) : x.frozen? ⟨q, i, none⟩ = false := unfrozen_of_block m.blk i
theorem Mid.on (_ : Mid B w x q P cN cT cR nN nT nR N T R) {e : TypeId} {sz : Nat} {v : Value} {n : Nat} {l : List Value} (ho : x.ownsRow B e sz v n l) : ∀ k, v.ownBlock = some k → B ≤ k := fun k hk => (ho.lt k hk).1
theorem Mid.name (m : Mid B w x q P cN cT cR nN nT nR N T R) {n : Nat} (ho : x'.ownsRow B 9 1 v' n (tc N')) (hk : Keep (fun k => nN.ownBlock = some k) x x') : Mid B w x' q P cN cT cR v' nT nR N' T R := by
  have hl : n = N'.length := by have := ho.1; rw [tc_len] at this; omega
  subst hl
  exact ⟨box_keep m.blk hk (fun e => by have := m.on m.oN q e; have := m.hq; omega), ho, own_keep m.oT hk (fun k h1 h2 => own_apart m.oT m.oN (by decide) k h1 h2), own_keep m.oR hk (fun k h1 h2 => own_apart m.oR m.oN (by decide) k h1 h2), m.kp.andThen hk (fun i hi e => by have := m.on m.oN i e; have := m.hB; omega), m.hB, m.hq⟩
theorem Mid.text (m : Mid B w x q P cN cT cR nN nT nR N T R) {n : Nat} (ho : x'.ownsRow B 32 1 v' n L) (hk : Keep (fun k => nT.ownBlock = some k) x x') : Mid B w x' q P cN cT cR nN v' nR N L R := by
  have hl : n = L.length := by have := ho.1; omega
  subst hl
  exact ⟨box_keep m.blk hk (fun e => by have := m.on m.oT q e; have := m.hq; omega), own_keep m.oN hk (fun k h1 h2 => own_apart m.oN m.oT (by decide) k h1 h2), ho, own_keep m.oR hk (fun k h1 h2 => own_apart m.oR m.oT (by decide) k h1 h2), m.kp.andThen hk (fun i hi e => by have := m.on m.oT i e; have := m.hB; omega), m.hB, m.hq⟩
theorem Mid.rule (m : Mid B w x q P cN cT cR nN nT nR N T R) {n : Nat} (ho : x'.ownsRow B 68 1 v' n L) (hk : Keep (fun k => nR.ownBlock = some k) x x') : Mid B w x' q P cN cT cR nN nT v' N T L := by
  have hl : n = L.length := by have := ho.1; omega
  subst hl
  exact ⟨box_keep m.blk hk (fun e => by have := m.on m.oR q e; have := m.hq; omega), own_keep m.oN hk (fun k h1 h2 => own_apart m.oN m.oR (by decide) k h1 h2), own_keep m.oT hk (fun k h1 h2 => own_apart m.oT m.oR (by decide) k h1 h2), ho, m.kp.andThen hk (fun i hi e => by have := m.on m.oR i e; have := m.hB; omega), m.hB, m.hq⟩
theorem Mid.set (m : Mid B w x q P cN cT cR nN nT nR N T R) {i : Nat} {u c3 c4 c5 : Value} (hb : (qlc P cN cT cR).setIfInBounds i u = qlc P c3 c4 c5) : Mid B w (x.setCell ⟨q, i, none⟩ u) q P c3 c4 c5 nN nT nR N T R := by
  have hk := setK x q i u
  have hq := m.hq
  have hn : ∀ {e : TypeId} {v : Value} {n : Nat} {l : List Value}, x.ownsRow B e 1 v n l → ∀ k, v.ownBlock = some k → ¬ k = q := fun {e v n l} ho k h1 h2 => by have := m.on ho k h1; omega
  refine ⟨?_, own_keep m.oN hk (hn m.oN), own_keep m.oT hk (hn m.oT), own_keep m.oR hk (hn m.oR), m.kp.trans hk, m.hB, m.hq⟩
  rw [← hb]
  exact block_setCell (i := i) m.blk u
theorem Mid.s3 (m : Mid B w x q P cN cT cR nN nT nR N T R) (u : Value) : Mid B w (x.setCell ⟨q, 3, none⟩ u) q P u cT cR nN nT nR N T R := m.set rfl
theorem Mid.s4 (m : Mid B w x q P cN cT cR nN nT nR N T R) (u : Value) : Mid B w (x.setCell ⟨q, 4, none⟩ u) q P cN u cR nN nT nR N T R := m.set rfl
theorem Mid.s5 (m : Mid B w x q P cN cT cR nN nT nR N T R) (u : Value) : Mid B w (x.setCell ⟨q, 5, none⟩ u) q P cN cT u nN nT nR N T R := m.set rfl
/-- The elder rows stand. -/
theorem Mid.old (m : Mid B w x q P cN cT cR nN nT nR N T R) {e : TypeId} {v : Value} {n : Nat} {l : List Value} (ho : w.ownsRow 0 e 1 v n l) {cs : Array Value} (hq : w.heap[q]? = some (.cells cs 57 (0, 0))) (he : e ≠ 57) : x.ownsRow 0 e 1 v n l :=
  own_keep ho m.kp (fun k h1 h2 => own_notq ho hq he (by rw [h1, h2]))
end
theorem tc_take (ns : List By) (k : Nat) : tc (ns.take k) = (tc ns).take k := by unfold tc; rw [List.map_take]
theorem tc_drop (ns : List By) (k : Nat) : tc (ns.drop k) = (tc ns).drop k := by unfold tc; rw [List.map_drop]
theorem tc_one' (ns : List By) : ∀ u ∈ tc ns, u.oneCell' = true := fun u hu => by obtain ⟨t, _, rfl⟩ := List.mem_map.1 hu; rfl
theorem mem_takeV {α : Type} {p : α → Prop} {l : List α} (h : ∀ u ∈ l, p u) (k : Nat) : ∀ u ∈ l.take k, p u := fun u hu => h u (List.mem_of_mem_take hu)
theorem mem_dropV {α : Type} {p : α → Prop} {l : List α} (h : ∀ u ∈ l, p u) (k : Nat) : ∀ u ∈ l.drop k, p u := fun u hu => h u (List.mem_of_mem_drop hu)
/-- What put leaves. -/
def Put (w w' : World) (q : Nat) (P : Pl) (N : List By) (T R : List Value) : Prop := ∃ vN vT vR, Mid w.heap.size w w' q P vN vT vR vN vT vR N T R

set_option maxHeartbeats 3200000 in
theorem qput_none (k r : Nat) (w : World) (F : Nat → Prop) (q : Nat) (P : Pl) (vN vT vR : Value) (vs us : List Value) (h : QM w F q P vN vT vR vs us) (hk : k ≤ (sortK P.ks).length) (hr : r ≤ (sortK P.ks).length) (hL : (sortK P.ks).length ≤ 100000) :
    Calls Tryz.prog 43 #[.pointer (some ⟨q, 0, none⟩), .int .i64 k, .int .i64 r, .string (ba []), .slice none 0 0, .slice none 0 0] w fun e w' => e = .returned (.tuple #[]) ∧ Put w w' q P ((sortK P.ks).take k ++ (sortK P.ks).drop r) (vs.take k ++ vs.drop r) (us.take k ++ us.drop r) := by
  obtain ⟨aN, dN, rfl, tN⟩ := VRd.ofOwn h.oN
  obtain ⟨aT, dT, rfl, tT⟩ := VRd.ofOwn h.oT
  obtain ⟨aR, dR, rfl, tR⟩ := VRd.ofOwn h.oR
  obtain ⟨B, HB⟩ : ∃ B, Hid (w.heap.size = B) := ⟨_, rfl⟩
  have M0 : Hid _ := Mid.start h HB.out
  have h1T : Hid (∀ u ∈ vs, u.oneCell' = true) := h.rT.one'
  have h1R : Hid (∀ u ∈ us, u.oneCell' = true) := h.rR.one'
  have nqN : Hid (∀ ad, aN = some ad → ¬ ad.block = q) := fun ad e e2 => own_notq h.oN h.blk (by decide) (by subst e; subst e2; rfl)
  have nqT : Hid (∀ ad, aT = some ad → ¬ ad.block = q) := fun ad e e2 => own_notq h.oT h.blk (by decide) (by subst e; subst e2; rfl)
  have nqR : Hid (∀ ad, aR = some ad → ¬ ad.block = q) := fun ad e e2 => own_notq h.oR h.blk (by decide) (by subst e; subst e2; rfl)
  have cN := tN.cap
  have cT := tT.cap
  have cR := tR.cap
  unfold Put
  rw [HB.out]
  obtain ⟨NS, HNS⟩ : ∃ NS, Hid (sortK P.ks = NS) := ⟨_, rfl⟩
  obtain ⟨L, HL⟩ : ∃ L, Hid ((sortK P.ks).length = L) := ⟨_, rfl⟩
  rw [HL.out] at hk hr hL tN tT tR cN cT cR M0
  rw [HNS.out] at tN ⊢
  have hLL : Hid (NS.length = L) := by show _ = _; rw [← HL.out, HNS.out]
  have M0k := M0.out.kp
  have u3 := M0.out.c3
  replace M0k : Hid _ := M0k
  have hB0 : B ≤ w.heap.size := Nat.le_of_eq HB.out.symm
  have e1 : (ba []).toList.isEmpty = true := by rw [Lib.toList_data, ba_list]; rfl
  clear h hB0
  generalize ba [] = S at *
  replace tN : Hid _ := tN
  replace tT : Hid _ := tT
  replace tR : Hid _ := tR
  have hk0 : (0 : Int) ≤ (k : Int) := by omega
  have hkN : (k : Int) ≤ (dN : Int) := by omega
  have hkT : (k : Int) ≤ (dT : Int) := by omega
  have hkR : (k : Int) ≤ (dR : Int) := by omega
  go_enter Tryz.func43, Tryz.ntmps43
  go_upto_region 4 with (at_builtin; refine wp_appV 32 9 _ 16 Tryz.underlying32 infoStr1 (by decide) rfl rfl (.tmp 15) (.tmp 22) rfl B (.slice none 0 0) 0 [] rfl (World.ownsRow_nil ..) _ k _ ((tc NS).take k) rfl (tN.out.take k hk) (mem_takeV (tc_one' NS) k) (by omega) M0.out.sz ?_; intro v3 w3 o3 k3)
  have M3 : Hid _ := M0.out.name (N' := NS.take k) (by rw [tc_take]; exact o3) k3
  have u4 := M3.out.c4
  clear u3 o3 k3 M0 M0k
  go_upto_region 5 with (at_builtin; refine wp_appV 36 32 _ 24 Tryz.underlying36 infoStrsG (by decide) rfl rfl (.tmp 24) (.tmp 31) rfl B (.slice none 0 0) 0 [] rfl (World.ownsRow_nil ..) _ k _ (vs.take k) rfl ((tT.out.keep M3.out.kp nqT.out).take k hk) (mem_takeV h1T.out k) (by omega) M3.out.sz ?_; intro v4 w4 o4 k4)
  have M4 : Hid _ := M3.out.text (L := vs.take k) o4 k4
  have u5 := M4.out.c5
  clear u4 o4 k4 M3
  go_upto_region 6 with (at_builtin; refine wp_appV 55 68 _ 24 Tryz.underlying55 infoRulesG (by decide) rfl rfl (.tmp 33) (.tmp 39) rfl B (.slice none 0 0) 0 [] rfl (World.ownsRow_nil ..) _ k _ (us.take k) rfl ((tR.out.keep M4.out.kp nqR.out).take k hk) (mem_takeV h1R.out k) (by omega) M4.out.sz ?_; intro v5 w5 o5 k5)
  have M5 : Hid _ := M4.out.rule (L := us.take k) o5 k5
  clear u5 o5 k5 M4
  go_upto_region 10 with fail
  have hkn : Hid (k ≤ L ∧ L ≤ 100000) := ⟨hk, hL⟩
  have hr0 : (0 : Int) ≤ (r : Int) := by omega
  have hrL : (r : Int) ≤ (L : Int) := by omega
  clear hk0 hkN hkT hkR hk
  obtain ⟨nN, hnN⟩ : ∃ nN, Hid ((NS.take k).length = nN) := ⟨_, rfl⟩
  have lN : Hid (nN ≤ 100001) := by show _ ≤ _; rw [← hnN.out]; simp only [List.length_take]; have := hkn.out; omega
  obtain ⟨nT, hnT⟩ : ∃ nT, Hid ((vs.take k).length = nT) := ⟨_, rfl⟩
  have lT : Hid (nT ≤ 100001) := by show _ ≤ _; rw [← hnT.out]; simp only [List.length_take]; have := hkn.out; omega
  obtain ⟨nR, hnR⟩ : ∃ nR, Hid ((us.take k).length = nR) := ⟨_, rfl⟩
  have lR : Hid (nR ≤ 100001) := by show _ ≤ _; rw [← hnR.out]; simp only [List.length_take]; have := hkn.out; omega
  have u3 := M5.out.c3
  have z10 : Hid _ := tN.out.keep M5.out.kp nqN.out
  have b10 := M5.out.oN
  rw [hnN.out] at b10
  go_upto_region 11 with (at_builtin; refine wp_appV 32 9 _ 16 Tryz.underlying32 infoStr1 (by decide) rfl rfl (.tmp 56) (.tmp 63) rfl B v3 nN (tc (NS.take k)) rfl b10 _ _ _ ((tc NS).drop r) rfl (by simpa using z10.out.drop r hr) (mem_dropV (tc_one' NS) r) (by have := lN.out; have := hkn.out; omega) M5.out.sz ?_; intro v10 w10 o10 k10; obtain ⟨a10, d10, hv10⟩ := ownR_sl o10; subst hv10; have M10 : Hid _ := M5.out.name (N' := NS.take k ++ NS.drop r) (by rw [tc_app, tc_drop]; exact o10) k10; have f10 := M10.out.fz 3; have y10 := M10.out.c3; clear o10 k10 b10)
  all_goals
    have Q10 : Hid _ := M10.out.s3 (.slice a10 (nN + (L - r)) d10)
    clear u3 f10 y10 z10 M10 M5
    generalize w10.setCell _ _ = x10 at Q10 ⊢
    have u4 := Q10.out.c4
    have z11 : Hid _ := tT.out.keep Q10.out.kp nqT.out
    have b11 := Q10.out.oT
    rw [hnT.out] at b11
    go_upto_region 12 with (at_builtin; refine wp_appV 36 32 _ 24 Tryz.underlying36 infoStrsG (by decide) rfl rfl (.tmp 69) (.tmp 76) rfl B v4 nT (vs.take k) rfl b11 _ _ _ (vs.drop r) rfl (by simpa using z11.out.drop r hr) (mem_dropV h1T.out r) (by have := lT.out; have := hkn.out; omega) Q10.out.sz ?_; intro v11 w11 o11 k11; obtain ⟨a11, d11, hv11⟩ := ownR_sl o11; subst hv11; have M11 : Hid _ := Q10.out.text (L := vs.take k ++ vs.drop r) o11 k11; have f11 := M11.out.fz 4; have y11 := M11.out.c4; clear o11 k11 b11)
    all_goals
      have Q11 : Hid _ := M11.out.s4 (.slice a11 (nT + (L - r)) d11)
      clear u4 f11 y11 z11 M11 Q10
      generalize w11.setCell _ _ = x11 at Q11 ⊢
      have u5 := Q11.out.c5
      have z12 : Hid _ := tR.out.keep Q11.out.kp nqR.out
      have b12 := Q11.out.oR
      rw [hnR.out] at b12
      go_wp2_with (at_builtin; refine wp_appV 55 68 _ 24 Tryz.underlying55 infoRulesG (by decide) rfl rfl (.tmp 82) (.tmp 88) rfl B v5 nR (us.take k) rfl b12 _ _ _ (us.drop r) rfl (by simpa using z12.out.drop r hr) (mem_dropV h1R.out r) (by have := lR.out; have := hkn.out; omega) Q11.out.sz ?_; intro v12 w12 o12 k12; obtain ⟨a12, d12, hv12⟩ := ownR_sl o12; subst hv12; have M12 : Hid _ := Q11.out.rule (L := us.take k ++ us.drop r) o12 k12; have f12 := M12.out.fz 5; have y12 := M12.out.c5; clear o12 k12 b12)
      all_goals
        have Q12 : Hid _ := M12.out.s5 (.slice a12 (nR + (L - r)) d12)
        go_end0
        exact ⟨rfl, _, _, _, by simpa using Q12.out⟩
set_option maxHeartbeats 3200000 in
theorem qput_one (s : By) (hs : s.isEmpty = false) (k r : Nat) (pa : Option Addr) (pn pc : Nat) (ra : Option Addr) (rn rc' : Nat) (w : World) (F : Nat → Prop) (q : Nat) (P : Pl) (vN vT vR : Value) (vs us : List Value) (h : QM w F q P vN vT vR vs us) (hk : k ≤ (sortK P.ks).length) (hr : r ≤ (sortK P.ks).length) (hL : (sortK P.ks).length ≤ 100000) :
    Calls Tryz.prog 43 #[.pointer (some ⟨q, 0, none⟩), .int .i64 k, .int .i64 r, .string (ba s), .slice pa pn pc, .slice ra rn rc'] w fun e w' => e = .returned (.tuple #[]) ∧ Put w w' q P ((sortK P.ks).take k ++ [s] ++ (sortK P.ks).drop r) (vs.take k ++ [.slice pa pn pc] ++ vs.drop r) (us.take k ++ [.slice ra rn rc'] ++ us.drop r) := by
  obtain ⟨aN, dN, rfl, tN⟩ := VRd.ofOwn h.oN
  obtain ⟨aT, dT, rfl, tT⟩ := VRd.ofOwn h.oT
  obtain ⟨aR, dR, rfl, tR⟩ := VRd.ofOwn h.oR
  obtain ⟨B, HB⟩ : ∃ B, Hid (w.heap.size = B) := ⟨_, rfl⟩
  have M0 : Hid _ := Mid.start h HB.out
  have h1T : Hid (∀ u ∈ vs, u.oneCell' = true) := h.rT.one'
  have h1R : Hid (∀ u ∈ us, u.oneCell' = true) := h.rR.one'
  have nqN : Hid (∀ ad, aN = some ad → ¬ ad.block = q) := fun ad e e2 => own_notq h.oN h.blk (by decide) (by subst e; subst e2; rfl)
  have nqT : Hid (∀ ad, aT = some ad → ¬ ad.block = q) := fun ad e e2 => own_notq h.oT h.blk (by decide) (by subst e; subst e2; rfl)
  have nqR : Hid (∀ ad, aR = some ad → ¬ ad.block = q) := fun ad e e2 => own_notq h.oR h.blk (by decide) (by subst e; subst e2; rfl)
  have cN := tN.cap
  have cT := tT.cap
  have cR := tR.cap
  unfold Put
  rw [HB.out]
  obtain ⟨NS, HNS⟩ : ∃ NS, Hid (sortK P.ks = NS) := ⟨_, rfl⟩
  obtain ⟨L, HL⟩ : ∃ L, Hid ((sortK P.ks).length = L) := ⟨_, rfl⟩
  rw [HL.out] at hk hr hL tN tT tR cN cT cR M0
  rw [HNS.out] at tN ⊢
  have hLL : Hid (NS.length = L) := by show _ = _; rw [← HL.out, HNS.out]
  have M0k := M0.out.kp
  have u3 := M0.out.c3
  replace M0k : Hid _ := M0k
  have hB0 : B ≤ w.heap.size := Nat.le_of_eq HB.out.symm
  have e1 : (ba s).toList.isEmpty = false := by rw [Lib.toList_data, ba_list]; exact hs
  clear h hB0
  generalize hsb : ba s = S at *
  replace hsb : Hid _ := hsb
  clear hs
  replace tN : Hid _ := tN
  replace tT : Hid _ := tT
  replace tR : Hid _ := tR
  have hk0 : (0 : Int) ≤ (k : Int) := by omega
  have hkN : (k : Int) ≤ (dN : Int) := by omega
  have hkT : (k : Int) ≤ (dT : Int) := by omega
  have hkR : (k : Int) ≤ (dR : Int) := by omega
  go_enter Tryz.func43, Tryz.ntmps43
  go_upto_region 4 with (at_builtin; refine wp_appV 32 9 _ 16 Tryz.underlying32 infoStr1 (by decide) rfl rfl (.tmp 15) (.tmp 22) rfl B (.slice none 0 0) 0 [] rfl (World.ownsRow_nil ..) _ k _ ((tc NS).take k) rfl (tN.out.take k hk) (mem_takeV (tc_one' NS) k) (by omega) M0.out.sz ?_; intro v3 w3 o3 k3)
  have M3 : Hid _ := M0.out.name (N' := NS.take k) (by rw [tc_take]; exact o3) k3
  have u4 := M3.out.c4
  clear u3 o3 k3 M0 M0k
  go_upto_region 5 with (at_builtin; refine wp_appV 36 32 _ 24 Tryz.underlying36 infoStrsG (by decide) rfl rfl (.tmp 24) (.tmp 31) rfl B (.slice none 0 0) 0 [] rfl (World.ownsRow_nil ..) _ k _ (vs.take k) rfl ((tT.out.keep M3.out.kp nqT.out).take k hk) (mem_takeV h1T.out k) (by omega) M3.out.sz ?_; intro v4 w4 o4 k4)
  have M4 : Hid _ := M3.out.text (L := vs.take k) o4 k4
  have u5 := M4.out.c5
  clear u4 o4 k4 M3
  go_upto_region 6 with (at_builtin; refine wp_appV 55 68 _ 24 Tryz.underlying55 infoRulesG (by decide) rfl rfl (.tmp 33) (.tmp 39) rfl B (.slice none 0 0) 0 [] rfl (World.ownsRow_nil ..) _ k _ (us.take k) rfl ((tR.out.keep M4.out.kp nqR.out).take k hk) (mem_takeV h1R.out k) (by omega) M4.out.sz ?_; intro v5 w5 o5 k5)
  have M5 : Hid _ := M4.out.rule (L := us.take k) o5 k5
  clear u5 o5 k5 M4
  go_upto_region 8 with (at_builtin; refine wp_appG 32 9 _ 16 Tryz.underlying32 infoStr1 (by decide) rfl rfl (.tmp 43) (.tmp 45) rfl B v3 _ (tc (NS.take k)) rfl M5.out.oN (.string S) rfl rfl (by rw [List.length_take, hLL.out]; omega) M5.out.sz ?_; intro v7 w7 o7 k7 g7 n7)
  have M7 : Hid _ := M5.out.name (N' := NS.take k ++ [s]) (by rw [tc_app]; show World.ownsRow _ _ _ _ _ _ (_ ++ [Value.string (ba s)]); rw [hsb.out]; exact o7) k7
  clear o7 k7 g7 n7 M5
  go_upto_region 9 with (at_builtin; refine wp_appG 36 32 _ 24 Tryz.underlying36 infoStrsG (by decide) rfl rfl (.tmp 47) (.tmp 49) rfl B v4 _ (vs.take k) rfl M7.out.oT (.slice pa pn pc) rfl rfl (by rw [List.length_take]; omega) M7.out.sz ?_; intro v8 w8 o8 k8 g8 n8)
  have M8 : Hid _ := M7.out.text (L := vs.take k ++ [.slice pa pn pc]) o8 k8
  clear o8 k8 g8 n8 M7
  go_upto_region 10 with (at_builtin; refine wp_appG 55 68 _ 24 Tryz.underlying55 infoRulesG (by decide) rfl rfl (.tmp 51) (.tmp 53) rfl B v5 _ (us.take k) rfl M8.out.oR (.slice ra rn rc') rfl rfl (by rw [List.length_take]; omega) M8.out.sz ?_; intro v9 w9 o9 k9 g9 n9)
  have M9 : Hid _ := M8.out.rule (L := us.take k ++ [.slice ra rn rc']) o9 k9
  clear o9 k9 g9 n9 M8
  have hkn : Hid (k ≤ L ∧ L ≤ 100000) := ⟨hk, hL⟩
  have hr0 : (0 : Int) ≤ (r : Int) := by omega
  have hrL : (r : Int) ≤ (L : Int) := by omega
  clear hk0 hkN hkT hkR hk
  obtain ⟨nN, hnN⟩ : ∃ nN, Hid ((NS.take k ++ [s]).length = nN) := ⟨_, rfl⟩
  have lN : Hid (nN ≤ 100001) := by show _ ≤ _; rw [← hnN.out]; simp only [List.length_append, List.length_take, List.length_cons, List.length_nil]; have := hkn.out; omega
  obtain ⟨nT, hnT⟩ : ∃ nT, Hid ((vs.take k ++ [Value.slice pa pn pc]).length = nT) := ⟨_, rfl⟩
  have lT : Hid (nT ≤ 100001) := by show _ ≤ _; rw [← hnT.out]; simp only [List.length_append, List.length_take, List.length_cons, List.length_nil]; have := hkn.out; omega
  obtain ⟨nR, hnR⟩ : ∃ nR, Hid ((us.take k ++ [Value.slice ra rn rc']).length = nR) := ⟨_, rfl⟩
  have lR : Hid (nR ≤ 100001) := by show _ ≤ _; rw [← hnR.out]; simp only [List.length_append, List.length_take, List.length_cons, List.length_nil]; have := hkn.out; omega
  have u3 := M9.out.c3
  have z10 : Hid _ := tN.out.keep M9.out.kp nqN.out
  have b10 := M9.out.oN
  rw [hnN.out] at b10
  go_upto_region 11 with (at_builtin; refine wp_appV 32 9 _ 16 Tryz.underlying32 infoStr1 (by decide) rfl rfl (.tmp 56) (.tmp 63) rfl B v7 nN (tc (NS.take k ++ [s])) rfl b10 _ _ _ ((tc NS).drop r) rfl (by simpa using z10.out.drop r hr) (mem_dropV (tc_one' NS) r) (by have := lN.out; have := hkn.out; omega) M9.out.sz ?_; intro v10 w10 o10 k10; obtain ⟨a10, d10, hv10⟩ := ownR_sl o10; subst hv10; have M10 : Hid _ := M9.out.name (N' := NS.take k ++ [s] ++ NS.drop r) (by rw [tc_app, tc_drop]; exact o10) k10; have f10 := M10.out.fz 3; have y10 := M10.out.c3; clear o10 k10 b10)
  all_goals
    have Q10 : Hid _ := M10.out.s3 (.slice a10 (nN + (L - r)) d10)
    clear u3 f10 y10 z10 M10 M9
    generalize w10.setCell _ _ = x10 at Q10 ⊢
    have u4 := Q10.out.c4
    have z11 : Hid _ := tT.out.keep Q10.out.kp nqT.out
    have b11 := Q10.out.oT
    rw [hnT.out] at b11
    go_upto_region 12 with (at_builtin; refine wp_appV 36 32 _ 24 Tryz.underlying36 infoStrsG (by decide) rfl rfl (.tmp 69) (.tmp 76) rfl B v8 nT (vs.take k ++ [Value.slice pa pn pc]) rfl b11 _ _ _ (vs.drop r) rfl (by simpa using z11.out.drop r hr) (mem_dropV h1T.out r) (by have := lT.out; have := hkn.out; omega) Q10.out.sz ?_; intro v11 w11 o11 k11; obtain ⟨a11, d11, hv11⟩ := ownR_sl o11; subst hv11; have M11 : Hid _ := Q10.out.text (L := vs.take k ++ [Value.slice pa pn pc] ++ vs.drop r) o11 k11; have f11 := M11.out.fz 4; have y11 := M11.out.c4; clear o11 k11 b11)
    all_goals
      have Q11 : Hid _ := M11.out.s4 (.slice a11 (nT + (L - r)) d11)
      clear u4 f11 y11 z11 M11 Q10
      generalize w11.setCell _ _ = x11 at Q11 ⊢
      have u5 := Q11.out.c5
      have z12 : Hid _ := tR.out.keep Q11.out.kp nqR.out
      have b12 := Q11.out.oR
      rw [hnR.out] at b12
      go_wp2_with (at_builtin; refine wp_appV 55 68 _ 24 Tryz.underlying55 infoRulesG (by decide) rfl rfl (.tmp 82) (.tmp 88) rfl B v9 nR (us.take k ++ [Value.slice ra rn rc']) rfl b12 _ _ _ (us.drop r) rfl (by simpa using z12.out.drop r hr) (mem_dropV h1R.out r) (by have := lR.out; have := hkn.out; omega) Q11.out.sz ?_; intro v12 w12 o12 k12; obtain ⟨a12, d12, hv12⟩ := ownR_sl o12; subst hv12; have M12 : Hid _ := Q11.out.rule (L := us.take k ++ [Value.slice ra rn rc'] ++ us.drop r) o12 k12; have f12 := M12.out.fz 5; have y12 := M12.out.c5; clear o12 k12 b12)
      all_goals
        have Q12 : Hid _ := M12.out.s5 (.slice a12 (nR + (L - r)) d12)
        go_end0
        exact ⟨rfl, _, _, _, by simpa using Q12.out⟩
end Go.Proofs.YtiplalbicibahaaGreatDoor

/- privacy: what the document's Set and Drop leave. -/
set_option maxRecDepth 100000
namespace Go.Proofs.YtiplalbicibahaaGreatDoor
open Go.RowKit Go.Joins Go.Shelf

def Qq (w : World) (F : Nat → Prop) (q : Nat) (P' : Pl) (w' : World) : Prop := ∃ F', QAt w' F' q P' ∧ Keep F w w' ∧ (∀ i, F' i → F i ∨ w.heap.size ≤ i)
theorem Qq.ofBelow {w w' : World} {F : Nat → Prop} {q : Nat} {P : Pl} (h : QAt w F q P) (hb : Below w.heap.size w w') : Qq w F q P w' := ⟨F, h.below hb, Keep.ofBelow hb, fun _ h => Or.inl h⟩
theorem Put.as {w w' : World} {q : Nat} {P P' : Pl} {N : List By} {T R : List Value} (h : Put w w' q P N T R) (h1 : P'.li = P.li) (h2 : P'.ru = P.ru) (h3 : P'.us = P.us) : Put w w' q P' N T R := by
  obtain ⟨a, b, c, m⟩ := h
  refine ⟨a, b, c, ⟨?_, m.oN, m.oT, m.oR, m.kp, m.hB, m.hq⟩⟩
  have := m.blk
  unfold qlc at this ⊢
  rw [h1, h2, h3]
  exact this
/-- Where rows of Lists' may lie ahead of a put. -/
def Ahead (w w1 : World) (F : Nat → Prop) (q : Nat) : Nat → Prop := fun i => i < w1.heap.size ∧ i ≠ q ∧ (F i ∨ w.heap.size ≤ i)
section
variable {w w1 w' : World} {F : Nat → Prop} {q : Nat} {P P' : Pl} {vN vT vR : Value} {vs us : List Value}
theorem QM.aheadT (h : QM w F q P vN vT vR vs us) (hb : Below w.heap.size w w1) : Vr w1 vs ((sortK P.ks).map (textsK P)) (Ahead w w1 F q) :=
  h.rT.keep (S := fun _ => False) (Keep.ofBelow hb) (fun _ _ e => e) (fun i hi => ⟨by have := h.lt i hi.1; have := hb.size; omega, hi.2.1, Or.inl hi.1⟩)
theorem QM.aheadR (h : QM w F q P vN vT vR vs us) (hb : Below w.heap.size w w1) : Vq w1 us ((sortK P.ks).map fun k => (P.m k).getD []) (Ahead w w1 F q) :=
  h.rR.keep (S := fun _ => False) (Keep.ofBelow hb) (fun _ _ e => e) (fun i hi => ⟨by have := h.lt i hi.1; have := hb.size; omega, hi.2.1, Or.inl hi.1⟩)
theorem QM.rebuilt (h : QM w F q P vN vT vR vs us) (hb : Below w.heap.size w w1) {N : List By} {T R : List Value} (hp : Put w1 w' q P' N T R)
    (hN : sortK P'.ks = N) (hT : Vr w1 T (N.map (textsK P')) (Ahead w w1 F q)) (hR : Vq w1 R (N.map fun k => (P'.m k).getD []) (Ahead w w1 F q))
    (hnd : P'.ks.Nodup) (hmem : ∀ s, (P'.m s).isSome = true ↔ s ∈ P'.ks) : Qq w F q P' w' := by
  obtain ⟨nN, nT, nR, m⟩ := hp
  have hs1 := hb.size
  have hs2 := m.kp.size
  have lN := fun i e => m.oN.lt i e
  have lT := fun i e => m.oT.lt i e
  have lR := fun i e => m.oR.lt i e
  have tl : T.length = (sortK P'.ks).length := by rw [hT.len, List.length_map, hN]
  have rl : R.length = (sortK P'.ks).length := by rw [hR.len, List.length_map, hN]
  refine ⟨fun i => F i ∨ (w.heap.size ≤ i ∧ i < w'.heap.size), ⟨nN, nT, nR, T, R, ⟨m.blk, ?_, ?_, ?_, ?_, ?_, Or.inl h.fq, ?_, ?_, ?_, ?_, hnd, hmem⟩⟩, (Keep.ofBelow hb).trans (m.kp.mono (fun i e => by rw [e]; exact h.fq)), fun i hi => hi.imp id (fun k => k.1)⟩
  · rw [hN]; exact own_weak m.oN (Nat.zero_le _)
  · rw [← tl]; exact own_weak m.oT (Nat.zero_le _)
  · rw [← rl]; exact own_weak m.oR (Nat.zero_le _)
  · rw [hN]
    exact hT.keep m.kp (fun i hi e => hi.2.1 e) (fun i hi => ⟨hi.2.2.imp id (fun e => ⟨e, by have := hi.1; omega⟩), hi.2.1, fun e => by have := (lT i e).1; have := hi.1; omega, fun e => by have := (lR i e).1; have := hi.1; omega⟩)
  · rw [hN]
    exact hR.keep m.kp (fun i hi e => hi.2.1 e) (fun i hi => ⟨hi.2.2.imp id (fun e => ⟨e, by have := hi.1; omega⟩), hi.2.1, fun e => by have := (lT i e).1; have := hi.1; omega, fun e => by have := (lR i e).1; have := hi.1; omega⟩)
  · exact fun i e => Or.inr ⟨by have := (lN i e).1; omega, (lN i e).2⟩
  · exact fun i e => Or.inr ⟨by have := (lT i e).1; omega, (lT i e).2⟩
  · exact fun i e => Or.inr ⟨by have := (lR i e).1; omega, (lR i e).2⟩
  · intro i hi
    rcases hi with e | e
    · have := h.lt i e; omega
    · exact e.2
theorem put_nd (h : QM w F q P vN vT vR vs us) (s : By) (rs : List Rul) : (putP P s rs).ks.Nodup := by
  unfold putP
  by_cases hs : (P.m s).isSome = true
  · rw [if_pos hs]; exact h.nd
  · rw [if_neg hs]
    exact List.nodup_cons.2 ⟨fun e => hs ((h.mem s).2 e), h.nd⟩
theorem put_mem (h : QM w F q P vN vT vR vs us) (s : By) (rs : List Rul) : ∀ u, ((putP P s rs).m u).isSome = true ↔ u ∈ (putP P s rs).ks := fun u => by
  unfold putP
  dsimp only
  by_cases hu : u = s
  · subst hu
    rw [putM_same]
    by_cases hs : (P.m u).isSome = true
    · rw [if_pos hs]; simp [(h.mem u).1 hs]
    · rw [if_neg hs]; simp
  · rw [putM_other _ _ hu, h.mem u]
    by_cases hs : (P.m s).isSome = true
    · rw [if_pos hs]
    · rw [if_neg hs]; simp [hu]
/-- A name more. -/
theorem QM.putNew (h : QM w F q P vN vT vR vs us) (hb : Below w.heap.size w w1) (s : By) (rs : List Rul) (hs : (P.m s).isSome = false) {pa : Option Addr} {pn pc : Nat} (ht : TRd w1 pa pn pc (rs.map writtenR)) (hta : ∀ ad, pa = some ad → w.heap.size ≤ ad.block ∧ ad.block < w1.heap.size) {f : Rw} (hf : RRd w1 f rs) (hfa : ∀ g, f.1 = some g → w.heap.size ≤ g ∧ g < w1.heap.size)
    (hp : Put w1 w' q P ((sortK P.ks).take (atK (sortK P.ks) s) ++ [s] ++ (sortK P.ks).drop (atK (sortK P.ks) s)) (vs.take (atK (sortK P.ks) s) ++ [.slice pa pn pc] ++ vs.drop (atK (sortK P.ks) s)) (us.take (atK (sortK P.ks) s) ++ [rsl f] ++ us.drop (atK (sortK P.ks) s))) : Qq w F q (putP P s rs) w' := by
  have hns : s ∉ P.ks := fun e => by rw [(h.mem s).2 e] at hs; cases hs
  have hns2 : s ∉ sortK P.ks := fun e => hns (sortK_mem.1 e)
  have hq : q < w.heap.size := h.lt q h.fq
  have hks : (putP P s rs).ks = s :: P.ks := by unfold putP; rw [if_neg (by rw [hs]; decide)]
  have hN : sortK (putP P s rs).ks = (sortK P.ks).take (atK (sortK P.ks) s) ++ [s] ++ (sortK P.ks).drop (atK (sortK P.ks) s) := by
    rw [List.append_assoc, List.singleton_append]
    exact sort_put h.nd hns _ (put_nd h s rs) (fun x => by rw [hks, List.mem_cons])
  refine h.rebuilt (P' := putP P s rs) hb (hp.as rfl rfl rfl) hN ?_ ?_ (put_nd h s rs) (put_mem h s rs)
  · rw [map_put (textsK P) (textsK (putP P s rs)) hns2 (putP_texts P s rs), putP_self]
    have hA := h.aheadT hb
    exact ((hA.take _).app (Vr.one ht (fun ad e => ⟨(hta ad e).2, by have := (hta ad e).1; omega, Or.inr (hta ad e).1⟩))).app (hA.drop _)
  · rw [map_put (fun k => (P.m k).getD []) (fun k => ((putP P s rs).m k).getD []) hns2 (putP_rules P s rs), putP_mine]
    have hA := h.aheadR hb
    exact ((hA.take _).app (Vq.one hf (fun g e => ⟨(hfa g e).2, by have := (hfa g e).1; omega, Or.inr (hfa g e).1⟩))).app (hA.drop _)
/-- A name is gone. -/
theorem QM.putGone (h : QM w F q P vN vT vR vs us) (hb : Below w.heap.size w w1) (s : By) (hs : (P.m s).isSome = true)
    (hp : Put w1 w' q P ((sortK P.ks).take (atK (sortK P.ks) s) ++ (sortK P.ks).drop (atK (sortK P.ks) s + 1)) (vs.take (atK (sortK P.ks) s) ++ vs.drop (atK (sortK P.ks) s + 1)) (us.take (atK (sortK P.ks) s) ++ us.drop (atK (sortK P.ks) s + 1))) : Qq w F q (dropP P s) w' := by
  have hms : s ∈ P.ks := (h.mem s).1 hs
  have hms2 : s ∈ sortK P.ks := sortK_mem.2 hms
  have hasc := asc_sortK h.nd
  refine h.rebuilt (P' := dropP P s) hb (hp.as rfl rfl rfl) (sort_drop h.nd hms) ?_ ?_ (h.nd.filter _) (fun u => ?_)
  · rw [map_drop (textsK P) (textsK (dropP P s)) hasc hms2 (dropP_texts P s)]
    have hA := h.aheadT hb
    exact (hA.take _).app (hA.drop _)
  · rw [map_drop (fun k => (P.m k).getD []) (fun k => ((dropP P s).m k).getD []) hasc hms2 (dropP_rules P s)]
    have hA := h.aheadR hb
    exact (hA.take _).app (hA.drop _)
  · unfold dropP dropK
    dsimp only
    by_cases hu : u = s
    · subst hu; rw [putM_same]; simp
    · rw [putM_other _ _ hu, h.mem u]; simp [hu]
/-- A name that is there: its rows are turned in place. -/
theorem QM.turned {gT gR : Nat} {n cT cR : Nat} (h : QM w F q P vN (.slice (some ⟨gT, 0, none⟩) n cT) (.slice (some ⟨gR, 0, none⟩) n cR) vs us) (hb : Below w.heap.size w w1) (s : By) (rs : List Rul) (hs : (P.m s).isSome = true) {pa : Option Addr} {pn pc : Nat} (ht : TRd w1 pa pn pc (rs.map writtenR)) (hta : ∀ ad, pa = some ad → w.heap.size ≤ ad.block ∧ ad.block < w1.heap.size) {f : Rw} (hf : RRd w1 f rs) (hfa : ∀ g, f.1 = some g → w.heap.size ≤ g ∧ g < w1.heap.size)
    (hw' : w' = (w1.setCell ⟨gT, atK (sortK P.ks) s, none⟩ (.slice pa pn pc)).setCell ⟨gR, atK (sortK P.ks) s, none⟩ (rsl f)) : Qq w F q (putP P s rs) w' := by
  subst hw'
  generalize hk0 : atK (sortK P.ks) s = k
  have hms : s ∈ P.ks := (h.mem s).1 hs
  have hms2 : s ∈ sortK P.ks := sortK_mem.2 hms
  have hasc := asc_sortK h.nd
  have h1 := h.below hb
  have hks : (putP P s rs).ks = P.ks := by unfold putP; rw [if_pos hs]
  have nTR : gT ≠ gR := fun e => own_apart h1.oT h1.oR (by decide) gT rfl (by rw [e]; rfl)
  have qT : q ≠ gT := fun e => own_notq h1.oT h1.blk (by decide) (by rw [e]; rfl)
  have qR : q ≠ gR := fun e => own_notq h1.oR h1.blk (by decide) (by rw [e]; rfl)
  have kT := setK w1 gT k (.slice pa pn pc)
  have kR := setK (w1.setCell ⟨gT, k, none⟩ (.slice pa pn pc)) gR k (rsl f)
  have kk : Keep (fun i => i = gT ∨ i = gR) w1 ((w1.setCell ⟨gT, k, none⟩ (.slice pa pn pc)).setCell ⟨gR, k, none⟩ (rsl f)) := (kT.mono (fun i e => Or.inl e)).trans (kR.mono (fun i e => Or.inr e))
  have oN := own_keep h1.oN kk (fun i e1 e2 => e2.elim (fun e => own_apart h1.oN h1.oT (by decide) i e1 (by rw [e]; rfl)) (fun e => own_apart h1.oN h1.oR (by decide) i e1 (by rw [e]; rfl)))
  have hnn : n = (sortK P.ks).length := by
    rcases h1.oT.2 with ⟨hv, _⟩ | ⟨g', cap', cur, hv, _⟩
    · cases hv
    · injection hv
  have hb2 := h1.blk
  subst hnn
  have oT := own_keep (h1.oT.stored k (.slice pa pn pc)).1 kR (fun i e1 e2 => nTR (Option.some.inj (show some gT = some gR from e1.trans (by rw [e2]))))
  have oR := ((own_keep h1.oR kT (fun i e1 e2 => nTR (e2.symm.trans (Option.some.inj (show some i = some gR from e1.symm))))).stored k (rsl f)).1
  have hz := kk.size
  have hsz := hb.size
  have hq : q < w.heap.size := h.lt q h.fq
  have lT : gT < w.heap.size := h.lt gT (h.fT gT rfl)
  have lR : gR < w.heap.size := h.lt gR (h.fR gR rfl)
  refine ⟨fun i => F i ∨ (w.heap.size ≤ i ∧ i < w1.heap.size), ⟨vN, _, _, vs.set k (.slice pa pn pc), us.set k (rsl f), ⟨box_keep h1.blk kk (fun e => e.elim qT qR), by rw [hks]; exact oN, by rw [hks]; exact oT, by rw [hks]; exact oR, ?_, ?_, Or.inl h.fq, fun i e => Or.inl (h.fN i e), fun i e => Or.inl (h.fT i e), fun i e => Or.inl (h.fR i e), ?_, put_nd h s rs, put_mem h s rs⟩⟩, (Keep.ofBelow hb).trans (kk.mono (fun i e => e.elim (fun e => by rw [e]; exact h.fT gT rfl) (fun e => by rw [e]; exact h.fR gR rfl))), fun i hi => hi.imp id (fun e => e.1)⟩
  · rw [hks, map_set (textsK P) (textsK (putP P s rs)) hasc hms2 (putP_texts P s rs), putP_self, hk0]
    refine Vr.set ?_ k (ht.keep kk (fun ad e e2 => ?_)) (fun ad e => ⟨Or.inr (hta ad e), by have := (hta ad e).1; omega, fun e2 => ?_, fun e2 => ?_⟩)
    · exact h1.rT.keep kk (fun i hi e => e.elim (fun e => hi.2.2.1 (by rw [e]; rfl)) (fun e => hi.2.2.2 (by rw [e]; rfl))) (fun i hi => ⟨Or.inl hi.1, hi.2.1, hi.2.2.1, hi.2.2.2⟩)
    · have := (hta ad e).1; omega
    · have := (hta ad e).1; have e3 : gT = ad.block := Option.some.inj e2; omega
    · have := (hta ad e).1; have e3 : gR = ad.block := Option.some.inj e2; omega
  · rw [hks, map_set (fun k => (P.m k).getD []) (fun k => ((putP P s rs).m k).getD []) hasc hms2 (putP_rules P s rs), putP_mine, hk0]
    refine Vq.set ?_ k (hf.keep kk (fun g e e2 => ?_)) (fun g e => ⟨Or.inr (hfa g e), by have := (hfa g e).1; omega, fun e2 => ?_, fun e2 => ?_⟩)
    · exact h1.rR.keep kk (fun i hi e => e.elim (fun e => hi.2.2.1 (by rw [e]; rfl)) (fun e => hi.2.2.2 (by rw [e]; rfl))) (fun i hi => ⟨Or.inl hi.1, hi.2.1, hi.2.2.1, hi.2.2.2⟩)
    · have := (hfa g e).1; omega
    · have := (hfa g e).1; have e3 : gT = g := Option.some.inj e2; omega
    · have := (hfa g e).1; have e3 : gR = g := Option.some.inj e2; omega
  · intro i hi
    rcases hi with e | e
    · have := h.lt i e; omega
    · omega
end
end Go.Proofs.YtiplalbicibahaaGreatDoor
