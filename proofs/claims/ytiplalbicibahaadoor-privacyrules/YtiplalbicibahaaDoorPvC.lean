/- privacy: a rule's value; whom; a rule. -/
import Derived.Test.YtiplalbicibahaaDoorPvB
set_option maxRecDepth 100000
namespace Go.Proofs.YtiplalbicibahaaDoor
open Go.RowKit Go.Joins Go.Shelf

theorem gv_calls_ok {f : FuncId} {args : Array Value} {w : World} {n : Nat} {v : Value} {R : World → Prop} (h : Calls Tryd.prog f args w fun e w' => Gv n v e ∧ R w') (h0 : n = 0) : Calls Tryd.prog f args w fun e w' => e = .returned v ∧ R w' :=
  h.mono fun _ _ k => ⟨k.1.elim (fun q => q.2) (fun q => absurd h0 q.1), k.2⟩
theorem gv_calls_no {f : FuncId} {args : Array Value} {w : World} {n : Nat} {v : Value} {R : World → Prop} (h : Calls Tryd.prog f args w fun e w' => Gv n v e ∧ R w') (h0 : n ≠ 0) : Calls Tryd.prog f args w fun e w' => e = .panicked (gaveP n) ∧ R w' :=
  h.mono fun _ _ k => ⟨k.1.elim (fun q => absurd q.1 h0) (fun q => q.2), k.2⟩

theorem valueOf_any (k t : By) (w : World) (ht : t.length ≤ 281474976710656) (hT : Lib.Utf8Tabs 0 1 w) :
    Calls Tryd.prog 50 #[.string (ba k), .string (ba t)] w fun e w' => Gv (valueR k t).2 (.string (ba (valueR k t).1)) e ∧ Below w.heap.size w w' := by
  have hts : (ba t).size ≤ 281474976710656 := by rw [ba_size]; exact ht
  have cL := pLocal_any (ba t) w hts hT
  have cN := checkName_any (ba t) w hts hT
  have cS := isSub_any (ba t) w
  have cC := fun w => clone_any (ba t) w (by omega)
  rw [ba_list] at cL cN cS
  have e1 : ((ba k).toList == [106, 105, 100]) = (k == wJid) := ba_eq _ _
  have e2 : ((ba k).toList == [103, 114, 111, 117, 112]) = (k == wGroup) := ba_eq _ _
  have e3 : ((ba k).toList == [115, 117, 98]) = (k == wSub) := ba_eq _ _
  unfold valueR
  generalize (k == wJid) = a1 at e1 ⊢
  generalize (k == wGroup) = a2 at e2 ⊢
  generalize (k == wSub) = a3 at e3 ⊢
  generalize ba k = K at e1 e2 e3 ⊢
  clear hT ht hts
  cases a1 with
  | true =>
    rw [if_pos rfl]
    clear e2 e3 cN cS cC
    generalize Nm.localN t = p at cL ⊢
    obtain ⟨l, n⟩ := p
    dsimp only at cL ⊢
    by_cases h0 : n = 0
    · have c := gv_calls_ok cL h0
      subst h0
      clear cL
      go_enter Tryd.func50, Tryd.ntmps50
      go_wp2_with (go_at_call 55; refine c.mono ?_; rintro e w1 ⟨rfl, hb⟩)
      go_ret
      exact ⟨gv_ok rfl, hb⟩
    · have c := gv_calls_no cL h0
      clear cL
      replace h0 : Hid (n ≠ 0) := h0
      go_enter Tryd.func50, Tryd.ntmps50
      go_wp2_with (go_at_call 55; refine c.mono ?_; rintro e w1 ⟨rfl, hb⟩)
      exact ⟨rfl, gv_no h0.out rfl, hb⟩
  | false =>
    rw [if_neg (by decide)]
    clear cL
    cases a2 with
    | true =>
      rw [if_pos rfl]
      clear e3 cS
      generalize nameE t = n at cN ⊢
      by_cases h0 : n = 0
      · subst h0
        rw [if_pos rfl]
        have cD := fun w => dem_ok 0 w
        go_enter Tryd.func50, Tryd.ntmps50
        go_wp2_with (first
          | (go_at_call 27; refine cN.mono ?_; clear cN; rintro e w1 ⟨rfl, hb⟩)
          | (go_at_call 49; refine (cD _).mono ?_; rintro e w2 ⟨rfl, hw2⟩; replace hw2 := hw2.symm; subst hw2)
          | (go_at_call 30; refine (cC _).mono ?_; clear cC; rintro e w3 ⟨rfl, hb3⟩))
        go_ret
        exact ⟨gv_ok rfl, hb.trans (hb3.mono hb.size)⟩
      · rw [if_neg h0]
        have hd : ((n : Int) == 0) = false := by simp; omega
        have cD := fun w => dem_no n w
        replace h0 : Hid (n ≠ 0) := h0
        clear cC
        go_enter Tryd.func50, Tryd.ntmps50
        go_wp2_with (first
          | (go_at_call 27; refine cN.mono ?_; clear cN; rintro e w1 ⟨rfl, hb⟩)
          | (go_at_call 49; refine (cD _).mono ?_; rintro e w2 ⟨rfl, hw2⟩; replace hw2 := hw2.symm; subst hw2))
        exact ⟨rfl, gv_no h0.out rfl, hb⟩
    | false =>
      rw [if_neg (by decide)]
      clear cN
      cases a3 with
      | false =>
        have cD := fun w => dem_no 2 w
        clear cS cC
        show Calls _ _ _ _ fun e w' => Gv 2 _ e ∧ _
        go_enter Tryd.func50, Tryd.ntmps50
        go_wp2_with (first
          | (go_at_call 49; refine (cD _).mono ?_; rintro e w2 ⟨rfl, hw2⟩; replace hw2 := hw2.symm; subst hw2))
        exact ⟨rfl, gv_no (by decide) rfl, Below.refl _ _⟩
      | true =>
        generalize isSubB t = z at cS ⊢
        cases z with
        | true =>
          have cD := fun w => dem_ok 2 w
          rw [if_pos (show (true && true) = true from rfl)]
          go_enter Tryd.func50, Tryd.ntmps50
          go_wp2_with (first
            | (go_at_call 56; refine cS.mono ?_; clear cS; rintro e w1 ⟨rfl, hw1⟩; replace hw1 := hw1.symm; subst hw1)
            | (go_at_call 49; refine (cD _).mono ?_; rintro e w2 ⟨rfl, hw2⟩; replace hw2 := hw2.symm; subst hw2)
            | (go_at_call 30; refine (cC _).mono ?_; clear cC; rintro e w3 ⟨rfl, hb3⟩))
          go_ret
          exact ⟨gv_ok rfl, hb3⟩
        | false =>
          have cD := fun w => dem_no 2 w
          clear cC
          show Calls _ _ _ _ fun e w' => Gv 2 _ e ∧ _
          go_enter Tryd.func50, Tryd.ntmps50
          go_wp2_with (first
            | (go_at_call 56; refine cS.mono ?_; clear cS; rintro e w1 ⟨rfl, hw1⟩; replace hw1 := hw1.symm; subst hw1)
            | (go_at_call 49; refine (cD _).mono ?_; rintro e w2 ⟨rfl, hw2⟩; replace hw2 := hw2.symm; subst hw2))
          exact ⟨rfl, gv_no (by decide) rfl, Below.refl _ _⟩

theorem whom_any (b : Nat) (l : By) (w : World) (h : RdrAt w b (ba l)) (hs : l.length ≤ 281474976710656) (hT : Lib.Utf8Tabs 0 1 w) (hb1 : b ≠ 0) (hb2 : b ≠ 1) :
    Calls Tryd.prog 37 #[.pointer (some ⟨b, 0, none⟩)] w fun e w' => Gv (whomR l).2.2 (.tuple #[.string (ba (whomR l).1), .string (ba (whomR l).2.1)]) e ∧ Keep (fun i => i = b) w w' := by
  have cW := word_any b (ba l) w h (by rw [ba_size]; exact hs)
  rw [ba_list] at cW
  have e1 : ((ba l).toList == [97, 108, 108]) = (l == wAll) := ba_eq _ _
  have c0 := p_cell h
  have zA : (Nm.cutA 32 l).length ≤ 281474976710656 := by unfold Nm.cutA; rw [List.length_take]; omega
  have zZ : (Nm.cutZ 32 l).length ≤ 281474976710656 := by unfold Nm.cutZ; rw [List.length_drop]; omega
  have cV := fun w' (hk : Keep (fun i => i = b) w w') => valueOf_any (Nm.cutA 32 l) (Nm.cutZ 32 l) w' zZ (tabs_keep hT hk (fun e => hb1 e.symm) (fun e => hb2 e.symm))
  have cC := fun w => clone_any (ba (Nm.cutA 32 l)) w (by rw [ba_size]; omega)
  unfold whomR
  generalize Nm.hasB 32 l = H at cW ⊢
  generalize valueR (Nm.cutA 32 l) (Nm.cutZ 32 l) = p at cV ⊢
  generalize Nm.cutA 32 l = A at cW cV cC ⊢
  generalize Nm.cutZ 32 l = Z at cW cV ⊢
  generalize (l == wAll) = a1 at e1 ⊢
  generalize ba l = L at *
  clear h zA zZ hT hs hb1 hb2
  cases a1 with
  | true =>
    rw [if_pos rfl]
    have cA : ∀ w, Calls Tryd.prog 30 #[.string ⟨#[97, 108, 108]⟩] w fun e w' => e = .returned (.string (ba wAll)) ∧ Below w.heap.size w w' := fun w => clone_any ⟨#[97, 108, 108]⟩ w (by show 3 ≤ _; omega)
    clear cW cV cC
    go_enter Tryd.func37, Tryd.ntmps37
    go_wp2_with (go_at_call 30; refine (cA _).mono ?_; clear cA; rintro e w3 ⟨rfl, hb3⟩)
    go_ret2
    exact ⟨gv_ok rfl, Keep.ofBelow hb3⟩
  | false =>
    rw [if_neg (by decide)]
    cases H with
    | false =>
      rw [if_neg (by decide)]
      have cW' : Calls Tryd.prog 48 #[.pointer (some ⟨b, 0, none⟩)] w (fun e w' => e = .panicked (gaveP 2) ∧ Keep (fun i => i = b) w w') := cW.mono (fun e w' h => ⟨h.2.elim (fun k => by cases k.1) (fun k => k.2), h.1⟩)
      clear cW cV cC
      go_enter Tryd.func37, Tryd.ntmps37
      go_wp2_with (go_at_call 48; refine cW'.mono ?_; clear cW'; rintro e w1 ⟨rfl, hk⟩)
      exact ⟨rfl, gv_no (by decide) rfl, hk⟩
    | true =>
      rw [if_pos rfl]
      have cW' : Calls Tryd.prog 48 #[.pointer (some ⟨b, 0, none⟩)] w (fun e w' => e = .returned (.string (ba A)) ∧ Hid (RdrAt w' b (ba Z) ∧ Keep (fun i => i = b) w w')) := cW.mono (fun e w' h => h.2.elim (fun k => ⟨k.2.1, k.2.2, h.1⟩) (fun k => by cases k.1))
      clear cW
      obtain ⟨v, n⟩ := p
      dsimp only at cV ⊢
      have HV : Hid (∀ (w' : World), Keep (fun i => i = b) w w' → Calls Tryd.prog 50 #[.string (ba A), .string (ba Z)] w' fun e w'' => Gv n (.string (ba v)) e ∧ Below w'.heap.size w' w'') := cV
      clear cV
      by_cases h0 : n = 0
      · rw [if_pos h0]
        show Calls _ _ _ _ fun e w' => Gv 0 (.tuple #[.string (ba A), .string (ba v)]) e ∧ _
        generalize ba A = SA at *
        generalize ba Z = SZ at *
        generalize ba v = SV at *
        replace h0 : Hid (n = 0) := h0
        go_enter Tryd.func37, Tryd.ntmps37
        go_wp2_with (first
          | (go_at_call 48; refine cW'.mono ?_; clear cW'; rintro e w1 ⟨rfl, hk⟩; have c1 := p_cell hk.out.1; have cv := gv_calls_ok (HV.out w1 hk.out.2) h0.out)
          | (go_at_call 50; refine cv.mono ?_; clear cv; rintro e w2 ⟨rfl, hb2⟩)
          | (go_at_call 30; refine (cC _).mono ?_; clear cC; rintro e w3 ⟨rfl, hb3⟩))
        go_ret2
        exact ⟨gv_ok rfl, (hk.out.2.trans (Keep.ofBelow hb2)).trans (Keep.ofBelow hb3)⟩
      · rw [if_neg h0]
        show Calls _ _ _ _ fun e w' => Gv n _ e ∧ _
        generalize ba A = SA at *
        generalize ba Z = SZ at *
        replace h0 : Hid (n ≠ 0) := h0
        clear cC
        go_enter Tryd.func37, Tryd.ntmps37
        go_wp2_with (first
          | (go_at_call 48; refine cW'.mono ?_; clear cW'; rintro e w1 ⟨rfl, hk⟩; have c1 := p_cell hk.out.1; have cv := gv_calls_no (HV.out w1 hk.out.2) h0.out)
          | (go_at_call 50; refine cv.mono ?_; clear cv; rintro e w2 ⟨rfl, hb2⟩))
        exact ⟨rfl, gv_no h0.out rfl, hk.out.2.trans (Keep.ofBelow hb2)⟩

/-! ### a rule in a variable of its own -/
def RuAt (w : World) (g : Nat) (r : Rul) : Prop := w.heap[g]? = some (.cells (rc r) 23 (0, 0))
section
variable {w w' : World} {g : Nat} {r : Rul}
theorem RuAt.lt (A : RuAt w g r) : g < w.heap.size := box_lt A
theorem RuAt.carry (A : RuAt w g r) (hb : Below w.heap.size w w') : RuAt w' g r := box_below A hb
theorem RuAt.c0 (A : RuAt w g r) : w.cell? ⟨g, 0, none⟩ = some (.bool r.al) := by rw [cell_of_block A]; rfl
theorem RuAt.c1 (A : RuAt w g r) : w.cell? ⟨g, 1, none⟩ = some (.bool r.i) := by rw [cell_of_block A]; rfl
theorem RuAt.c2 (A : RuAt w g r) : w.cell? ⟨g, 2, none⟩ = some (.bool r.o) := by rw [cell_of_block A]; rfl
theorem RuAt.c3 (A : RuAt w g r) : w.cell? ⟨g, 3, none⟩ = some (.string (ba r.k)) := by rw [cell_of_block A]; rfl
theorem RuAt.c4 (A : RuAt w g r) : w.cell? ⟨g, 4, none⟩ = some (.string (ba r.v)) := by rw [cell_of_block A]; rfl
theorem RuAt.fz (A : RuAt w g r) (i : Nat) : w.frozen? ⟨g, i, none⟩ = false := unfrozen_of_block A i
theorem infoRule : (Tryd.prog.info? 23).map (·.size) = some 5 := by kernel_rfl
theorem Tryd.cells23 : Tryd.prog.cellsOf 23 = 5 := by kernel_rfl
theorem rc_one (r : Rul) : (rc r).all (·.oneCell') = true := by simp [rc, Value.oneCell']
theorem RuAt.load (A : RuAt w g r) : (loadVar 23 ⟨g, 0, none⟩).run Tryd.prog w = .ok (rv r) w := run_loadVar_row w g 23 23 _ (0, 0) _ A Tryd.underlying23 rfl (by rw [infoRule]; rfl)
theorem RuAt.set (A : RuAt w g r) (r' : Rul) : RuAt (w.setRow g (rc r')) g r' := setRow_heap w g _ _ 23 (0, 0) A
end
theorem wp_store_ru {ops : Array Oper} {rest : List Oper} {o : Oper} {a : Act} {w : World} {Q : Exit → Act → World → Prop} (hgd : o.guard = none) (x y : Operand) (ho : o.op = .store 23 x y)
    (g : Nat) (hx : a.eval x = .pointer (some ⟨g, 0, none⟩)) (r' : Rul) (hy : a.eval y = rv r') (r : Rul) (hg : RuAt w g r)
    (hk : wpList Tryd.prog ops Q rest (a.put o.dst undef) (w.setRow g (rc r'))) : wpList Tryd.prog ops Q (o :: rest) a w :=
  wpList_store_row hgd 23 x y ho g _ hx hy 23 _ hg (by rw [infoRule]; rfl) (by rfl) (rc_one r') hk
theorem exec_load_ru {o : Oper} {ρ : Operand → Value} {w : World} (x : Operand) (ho : o.op = .load 23 x) (g : Nat) (hx : ρ x = .pointer (some ⟨g, 0, none⟩)) (r : Rul) (hg : RuAt w g r) :
    (execOp ρ o).run Tryd.prog w = .ok (.value (rv r)) w := by
  unfold execOp
  simp only [ho, hx, Instr.loadAt, Instr.sureAddr, Sem.run_bind, Sem.run_pure, Result.andThen_ok, hg.load]
theorem wp_load_ru {ops : Array Oper} {rest : List Oper} {o : Oper} {a : Act} {w : World} {Q : Exit → Act → World → Prop} (hgd : o.guard = none) (x : Operand) (ho : o.op = .load 23 x) (g : Nat) (hx : a.eval x = .pointer (some ⟨g, 0, none⟩)) (r : Rul) (hg : RuAt w g r)
    (hk : wpList Tryd.prog ops Q rest (a.put o.dst (rv r)) w) : wpList Tryd.prog ops Q (o :: rest) a w := by
  refine wpList_plain hgd fun K' hK' => ?_
  unfold Oper.wp
  rw [exec_load_ru x ho g hx r hg]
  exact hK' _ _ hk
theorem res_ru {fn : Func} {p : Tmp} (h : fn.results = #[.cell p 23]) (tmps : Array Value) (w : World) (g : Nat) (r : Rul) (hp : tmps.getD p undef = .pointer (some ⟨g, 0, none⟩)) (hg : RuAt w g r) :
    (results fn tmps).run Tryd.prog w = .ok (rv r) w :=
  results_cell_row h tmps w g 23 _ (0, 0) _ hp hg Tryd.underlying23 rfl (by rw [infoRule]; rfl)

/-- While a rule is read: its variable, and what is kept. -/
structure PR (w0 : World) (b : Nat) (r : Rul) (w : World) : Prop where
  ru : RuAt w w0.heap.size r
  kp : Keep (fun i => i = b) w0 w
  lt : b < w0.heap.size
theorem PR.step {w0 w w' : World} {b : Nat} {r : Rul} (h : PR w0 b r w) (hk : Keep (fun i => i = b) w w') : PR w0 b r w' := ⟨box_keep h.ru hk (by have := h.lt; omega), h.kp.trans hk, h.lt⟩
theorem PR.set {w0 w : World} {b : Nat} {r : Rul} (h : PR w0 b r w) (i : Nat) (v : Value) (r' : Rul) (e : (rc r).setIfInBounds i v = rc r') : PR w0 b r' (w.setCell ⟨w0.heap.size, i, none⟩ v) :=
  ⟨by have := block_setCell (i := i) h.ru v; rw [e] at this; exact this, h.kp.setNew (Nat.le_refl _) v, h.lt⟩
theorem PR.rdr {w0 w : World} {b : Nat} {r : Rul} {s : ByteArray} (h : PR w0 b r w) (hr : RdrAt w b s) (i : Nat) (v : Value) : RdrAt (w.setCell ⟨w0.heap.size, i, none⟩ v) b s := box_keep hr (setK w w0.heap.size i v) (by have := h.lt; omega)
end Go.Proofs.YtiplalbicibahaaDoor
