/- privacy: the closure of fitting; slices.IndexFunc; Allows. -/
import Derived.Test.YtiplalbicibahaaDoorPvH
set_option maxRecDepth 100000
namespace Go.Proofs.YtiplalbicibahaaDoor
open Go.RowKit Go.Joins Go.Shelf

set_option maxHeartbeats 1600000 in
theorem fitC_any (g : Nat) (q : Qy) (a : Option Addr) (n c : Nat) (r : Rul) (w : World) (hF : FitAt w g q a n c) :
    Calls Tryd.prog 46 #[rv r, .pointer (some ⟨g, 0, none⟩), .pointer (some ⟨g + 1, 0, none⟩), .pointer (some ⟨g + 2, 0, none⟩), .pointer (some ⟨g + 3, 0, none⟩)] w fun e w' => e = .returned (.bool (fitsR q r)) ∧ Below w.heap.size w w' := by
  obtain ⟨al, ri, ro, k, v⟩ := r
  have hF1 : FitAt (w.alloc (.cells (rc ⟨al, ri, ro, k, v⟩) 23)) g q a n c := hF.below (below1 _ _)
  have hR1 : RuAt (w.alloc (.cells (rc ⟨al, ri, ro, k, v⟩) 23)) w.heap.size ⟨al, ri, ro, k, v⟩ := push_at _ _ rfl
  have HB1 : Hid (Below w.heap.size w (w.alloc (.cells (rc ⟨al, ri, ro, k, v⟩) 23))) := below1 _ _
  have cC := contains_any a n c q.gs v (w.alloc (.cells (rc ⟨al, ri, ro, k, v⟩) 23)) hF1.gs
  have e1 : ((ba k).toList == [106, 105, 100]) = (k == wJid) := ba_eq _ _
  have e2 : ((ba k).toList == [103, 114, 111, 117, 112]) = (k == wGroup) := ba_eq _ _
  have e3 : ((ba k).toList == [115, 117, 98]) = (k == wSub) := ba_eq _ _
  have e4 : ((ba v).toList == (ba q.c).toList) = (v == q.c) := by rw [ba_eq, Lib.toList_data, ba_list]
  have e5 : ((ba v).toList == (ba (trimA q.s)).toList) = (v == trimA q.s) := by rw [ba_eq, Lib.toList_data, ba_list]
  have p0 := p_cell hF1.b0
  have p1 := p_cell hF1.b1
  have p2 := p_cell hF1.b2
  have p3 := p_cell hF1.b3
  have u1 := hR1.c1
  have u2 := hR1.c2
  have u3 := hR1.c3
  have u4 := hR1.c4
  unfold fitsR rv rc
  unfold rc at cC p0 p1 p2 p3 u1 u2 u3 u4 HB1
  dsimp only at *
  clear hF hF1 hR1
  generalize q.gs.contains v = B at cC ⊢
  generalize (k == wJid) = a1 at *
  generalize (k == wGroup) = a2 at *
  generalize (k == wSub) = a3 at *
  generalize (v == q.c) = a4 at *
  generalize (v == trimA q.s) = a5 at *
  generalize q.i = qi at *
  generalize ba k = K at *
  generalize ba v = V at *
  generalize ba q.c = C at *
  generalize ba (trimA q.s) = T at *
  obtain ⟨W, HW⟩ : ∃ W, Hid (w.alloc (.cells #[.bool al, .bool ri, .bool ro, .string K, .string V] 23) = W) := ⟨_, rfl⟩
  rw [HW.out] at cC p0 p1 p2 p3 u1 u2 u3 u4 HB1
  cases qi <;> cases ri <;> cases ro
  case false.false.false =>
    clear cC e1 e2 e3 e4 e5
    go_enter Tryd.func46, Tryd.ntmps46
    go_upto_region 1 with fail
    rw [HW.out]
    go_wp2
    go_ret
    exact ⟨rfl, HB1.out⟩
  case false.false.true =>
    cases a1
    case true =>
      clear cC e2 e3 e5
      go_enter Tryd.func46, Tryd.ntmps46
      go_upto_region 1 with fail
      rw [HW.out]
      go_wp2
      go_ret
      exact ⟨rfl, HB1.out⟩
    cases a2
    case true =>
      clear e3 e4 e5
      go_enter Tryd.func46, Tryd.ntmps46
      go_upto_region 1 with fail
      rw [HW.out]
      go_wp2_with (go_at_call 47; refine cC.mono ?_; clear cC; rintro e w1 ⟨rfl, hw1⟩; replace hw1 := hw1.symm; subst hw1)
      go_ret
      exact ⟨rfl, HB1.out⟩
    cases a3
    case true =>
      clear cC e4
      go_enter Tryd.func46, Tryd.ntmps46
      go_upto_region 1 with fail
      rw [HW.out]
      go_wp2
      go_ret
      exact ⟨rfl, HB1.out⟩
    clear cC e4 e5
    go_enter Tryd.func46, Tryd.ntmps46
    go_upto_region 1 with fail
    rw [HW.out]
    go_wp2
    go_ret
    exact ⟨rfl, HB1.out⟩
  case false.true.false =>
    clear cC e1 e2 e3 e4 e5
    go_enter Tryd.func46, Tryd.ntmps46
    go_upto_region 1 with fail
    rw [HW.out]
    go_wp2
    go_ret
    exact ⟨rfl, HB1.out⟩
  case false.true.true =>
    cases a1
    case true =>
      clear cC e2 e3 e5
      go_enter Tryd.func46, Tryd.ntmps46
      go_upto_region 1 with fail
      rw [HW.out]
      go_wp2
      go_ret
      exact ⟨rfl, HB1.out⟩
    cases a2
    case true =>
      clear e3 e4 e5
      go_enter Tryd.func46, Tryd.ntmps46
      go_upto_region 1 with fail
      rw [HW.out]
      go_wp2_with (go_at_call 47; refine cC.mono ?_; clear cC; rintro e w1 ⟨rfl, hw1⟩; replace hw1 := hw1.symm; subst hw1)
      go_ret
      exact ⟨rfl, HB1.out⟩
    cases a3
    case true =>
      clear cC e4
      go_enter Tryd.func46, Tryd.ntmps46
      go_upto_region 1 with fail
      rw [HW.out]
      go_wp2
      go_ret
      exact ⟨rfl, HB1.out⟩
    clear cC e4 e5
    go_enter Tryd.func46, Tryd.ntmps46
    go_upto_region 1 with fail
    rw [HW.out]
    go_wp2
    go_ret
    exact ⟨rfl, HB1.out⟩
  case true.false.false =>
    clear cC e1 e2 e3 e4 e5
    go_enter Tryd.func46, Tryd.ntmps46
    go_upto_region 1 with fail
    rw [HW.out]
    go_wp2
    go_ret
    exact ⟨rfl, HB1.out⟩
  case true.false.true =>
    clear cC e1 e2 e3 e4 e5
    go_enter Tryd.func46, Tryd.ntmps46
    go_upto_region 1 with fail
    rw [HW.out]
    go_wp2
    go_ret
    exact ⟨rfl, HB1.out⟩
  case true.true.false =>
    cases a1
    case true =>
      clear cC e2 e3 e5
      go_enter Tryd.func46, Tryd.ntmps46
      go_upto_region 1 with fail
      rw [HW.out]
      go_wp2
      go_ret
      exact ⟨rfl, HB1.out⟩
    cases a2
    case true =>
      clear e3 e4 e5
      go_enter Tryd.func46, Tryd.ntmps46
      go_upto_region 1 with fail
      rw [HW.out]
      go_wp2_with (go_at_call 47; refine cC.mono ?_; clear cC; rintro e w1 ⟨rfl, hw1⟩; replace hw1 := hw1.symm; subst hw1)
      go_ret
      exact ⟨rfl, HB1.out⟩
    cases a3
    case true =>
      clear cC e4
      go_enter Tryd.func46, Tryd.ntmps46
      go_upto_region 1 with fail
      rw [HW.out]
      go_wp2
      go_ret
      exact ⟨rfl, HB1.out⟩
    clear cC e4 e5
    go_enter Tryd.func46, Tryd.ntmps46
    go_upto_region 1 with fail
    rw [HW.out]
    go_wp2
    go_ret
    exact ⟨rfl, HB1.out⟩
  case true.true.true =>
    cases a1
    case true =>
      clear cC e2 e3 e5
      go_enter Tryd.func46, Tryd.ntmps46
      go_upto_region 1 with fail
      rw [HW.out]
      go_wp2
      go_ret
      exact ⟨rfl, HB1.out⟩
    cases a2
    case true =>
      clear e3 e4 e5
      go_enter Tryd.func46, Tryd.ntmps46
      go_upto_region 1 with fail
      rw [HW.out]
      go_wp2_with (go_at_call 47; refine cC.mono ?_; clear cC; rintro e w1 ⟨rfl, hw1⟩; replace hw1 := hw1.symm; subst hw1)
      go_ret
      exact ⟨rfl, HB1.out⟩
    cases a3
    case true =>
      clear cC e4
      go_enter Tryd.func46, Tryd.ntmps46
      go_upto_region 1 with fail
      rw [HW.out]
      go_wp2
      go_ret
      exact ⟨rfl, HB1.out⟩
    clear cC e4 e5
    go_enter Tryd.func46, Tryd.ntmps46
    go_upto_region 1 with fail
    rw [HW.out]
    go_wp2
    go_ret
    exact ⟨rfl, HB1.out⟩

theorem ent_fitC (args : Array Value) (w : World) : (callFunc 46 args).run Tryd.prog w = .ok (.enter 46 args) w := enters_of Tryd.func46 (by kernel_rfl) rfl args w

/-! ### slices.IndexFunc -/
theorem find_pre (f : Rul → Bool) : ∀ (ps : List Rul) (r : Rul) (qs : List Rul), (∀ p ∈ ps, f p = false) → f r = true → (ps ++ r :: qs).find? f = some r
  | [], r, qs, _, h => by simp [h]
  | p :: ps, r, qs, hp, h => by
    rw [List.cons_append, List.find?_cons, hp p (by simp)]
    exact find_pre f ps r qs (fun x hx => hp x (by simp [hx])) h
def IxR (q : Qy) (rs : List Rul) (k : Int) : Prop := (k = -1 ∧ rs.find? (fitsR q) = none) ∨ ∃ (j : Nat) (r : Rul), k = (j : Int) ∧ rs[j]? = some r ∧ rs.find? (fitsR q) = some r
set_option maxHeartbeats 1600000 in
theorem indexFunc_any (f : Rw) (rs : List Rul) (g : Nat) (q : Qy) (a : Option Addr) (n c : Nat) (w : World) (hR : RRd w f rs) (hF : FitAt w g q a n c) (hl : rs.length ≤ 100000) :
    Calls Tryd.prog 32 #[rsl f, fitV g] w fun e w' => (∃ k : Int, e = .returned (.int .i64 k) ∧ IxR q rs k) ∧ Below w.heap.size w w' := by
  obtain ⟨fa, fn, fc⟩ := f
  have Hn : Hid (rs.length = fn) := hR.len
  have hnc : fn ≤ fc := hR.cap
  have hcm : fc ≤ maxLen := hR.most
  have hln : fn ≤ 100000 := by rw [← Hn.out]; exact hl
  unfold maxLen at hcm
  have HR : Hid (RRd w (fa, fn, fc) rs) := hR
  have HF : Hid (FitAt w g q a n c) := hF
  clear hR hF hl
  show Calls Tryd.prog _ #[.slice (fa.map fun g => ⟨g, 0, none⟩) fn fc, _] _ _
  obtain ⟨A, HA⟩ : ∃ A : Option Addr, Hid ((fa.map fun g => (⟨g, 0, none⟩ : Addr)) = A) := ⟨_, rfl⟩
  rw [HA.out]
  go_enter Tryd.func32, Tryd.ntmps32
  go_upto_region 2 with fail
  go_loopw [5, 8] (fun _ s8 wr => ∃ j : Nat, s8 = .int .i64 j ∧ j ≤ fn ∧ Hid (∀ t ∈ rs.take j, fitsR q t = false) ∧ Hid (Below w.heap.size w wr)) (fun _ s8 _ => fn - (intOf s8).toNat)
  case atStart => exact ⟨0, rfl, by omega, fun t ht => by simp at ht, Below.refl _ _⟩
  case round =>
    obtain ⟨j, rfl, hjn, HP, HB⟩ := hrel
    by_cases hlt : j < fn
    · have hcl : (j : Int) < (fn : Int) := by omega
      obtain ⟨gb, hgb, hrow⟩ := (HR.out.below HB.out).row (by show 0 < fn; omega)
      obtain ⟨y, hy⟩ : ∃ y, rs[j]? = some y := ⟨_, List.getElem?_eq_getElem (by rw [Hn.out]; exact hlt)⟩
      have hmid := hrow j y hy
      replace hgb : fa = some gb := hgb
      have hA := HA.out
      rw [hgb] at hA
      replace hA : A = some ⟨gb, 0, none⟩ := hA.symm
      subst hA
      have hF1 := HF.out.below HB.out
      have cF := fitC_any g q a n c y wr hF1
      have HTk : Hid (rs.take (j + 1) = rs.take j ++ [y]) := by
        show _ = _
        rw [List.take_add_one, hy]; rfl
      have HFd : Hid (fitsR q y = true → rs.find? (fitsR q) = some y) := fun h => by
        have e := List.getElem?_eq_some_iff.1 hy
        have : rs = rs.take j ++ y :: rs.drop (j + 1) := by
          rw [← e.2]
          exact (List.take_append_drop j rs).symm.trans (by rw [List.drop_eq_getElem_cons e.1])
        rw [this]
        exact find_pre _ _ _ _ HP.out h
      have hy' : Hid (rs[j]? = some y) := hy
      have eK := ent_fitC
      have HM : Hid (wr.rangeAt gb (j * 5) (rc y).toList) := hmid
      clear hrow hF1 hmid hy
      cases hv : fitsR q y with
      | true =>
        rw [hv] at cF
        have HFd2 := HFd.out hv
        clear HFd hv HTk
        replace HFd2 : Hid (rs.find? (fitsR q) = some y) := HFd2
        go_wp2_with (first
          | (refine wpList_load_mid rfl 23 (.tmp 14) rfl gb (j * 5) rfl (rc y).toList _ HM.out Tryd.underlying23 rfl (by rw [infoRule]; rfl) ?_)
          | (go_at_fn 46; refine cF.mono ?_; clear cF; rintro e w5 ⟨rfl, hb5⟩))
        go_ret
        exact ⟨⟨_, rfl, Or.inr ⟨j, y, rfl, hy'.out, HFd2.out⟩⟩, HB.out.trans (hb5.mono HB.out.size)⟩
      | false =>
        rw [hv] at cF
        have HP2 : Hid (∀ t ∈ rs.take (j + 1), fitsR q t = false) := fun t ht => by
          rw [HTk.out] at ht
          rcases List.mem_append.1 ht with z | z
          · exact HP.out t z
          · have : t = y := by simpa using z
            rw [this]; exact hv
        clear HFd hv HTk HP
        go_wp2_with (first
          | (refine wpList_load_mid rfl 23 (.tmp 14) rfl gb (j * 5) rfl (rc y).toList _ HM.out Tryd.underlying23 rfl (by rw [infoRule]; rfl) ?_)
          | (go_at_fn 46; refine cF.mono ?_; clear cF; rintro e w5 ⟨rfl, hb5⟩))
        exact ⟨⟨j + 1, by go_num, by omega, HP2.out, HB.out.trans (hb5.mono HB.out.size)⟩, by simp [intOf]; omega⟩
    · have hcl : ¬ (j : Int) < (fn : Int) := by omega
      obtain rfl : j = fn := by omega
      have HC : Hid (IxR q rs (-1)) := by
        have h := HP.out
        rw [List.take_of_length_le (by rw [Hn.out]; exact Nat.le_refl _)] at h
        exact Or.inl ⟨rfl, List.find?_eq_none.2 (fun x hx => by rw [h x hx]; decide)⟩
      clear HP
      go_wp2
      go_ret
      exact ⟨⟨-1, rfl, HC.out⟩, HB.out⟩

/-! ### Allows -/
def allowsR (q : Qy) (rs : List Rul) : Bool := match rs.find? (fitsR q) with | none => true | some r => r.al
theorem allowsR_none {q : Qy} {rs : List Rul} (h : rs.find? (fitsR q) = none) : allowsR q rs = true := by unfold allowsR; rw [h]
theorem allowsR_some {q : Qy} {rs : List Rul} {r : Rul} (h : rs.find? (fitsR q) = some r) : allowsR q rs = r.al := by unfold allowsR; rw [h]
set_option maxHeartbeats 1600000 in
theorem allowsM_any (s : By) (y : Qy) (a : Option Addr) (n c : Nat) (w : World) (F : Nat → Prop) (q mb : Nat) (m : By → Option Rw) (P : Pl) (h : LsM w F q mb m P) (hs : s.length ≤ 1000000) (hu : P.us.length ≤ 1000000) (hR : TRd w a n c y.gs) (hsb : y.s.length ≤ 9223372036854775807) (hl : (heldR P s).length ≤ 100000) :
    Calls Tryd.prog 16 #[.pointer (some ⟨q, 0, none⟩), .string (ba s), .bool y.i, .string (ba y.c), .slice a n c, .string (ba y.s)] w fun e w' => e = .returned (.bool (allowsR y (heldR P s))) ∧ Below w.heap.size w w' := by
  have cH := holding_any s w F q mb m P h hs hu
  have cF := fitting_any y a n c w hR hsb
  clear h hs hu hR hsb
  generalize heldR P s = rs at *
  cases hf : rs.find? (fitsR y) with
  | none =>
    rw [allowsR_none hf]
    replace hf : Hid (rs.find? (fitsR y) = none) := hf
    replace hl : Hid (rs.length ≤ 100000) := hl
    go_enter Tryd.func16, Tryd.ntmps16
    go_wp2_with (first
      | (go_at_call 31; refine cH.mono ?_; clear cH; rintro e w1 ⟨f, rfl, hr, hw1⟩; replace hw1 := hw1.symm; subst hw1; have HRr : Hid (RRd w f rs) := hr; clear hr)
      | (go_at_call 33; refine cF.mono ?_; clear cF; rintro e w2 ⟨rfl, hF2, hb2⟩; have cI := indexFunc_any f rs w.heap.size y a n c w2 (HRr.out.below hb2) hF2 hl.out; clear hF2)
      | (go_at_call 32; refine cI.mono ?_; clear cI; rintro e w3 ⟨⟨k, rfl, hk⟩, hb3⟩; obtain rfl : k = -1 := hk.elim (fun z => z.1) (fun ⟨j, r, _, _, z⟩ => absurd (hf.out.symm.trans z) (by simp)); clear hk))
    go_ret
    exact ⟨rfl, hb2.trans (hb3.mono hb2.size)⟩
  | some r =>
    rw [allowsR_some hf]
    replace hf : Hid (rs.find? (fitsR y) = some r) := hf
    replace hl : Hid (rs.length ≤ 100000) := hl
    go_enter Tryd.func16, Tryd.ntmps16
    go_upto_region 3 with (first
      | (go_at_call 31; refine cH.mono ?_; clear cH; rintro e w1 ⟨f, rfl, hr, hw1⟩; replace hw1 := hw1.symm; subst hw1; have HRr : Hid (RRd w f rs) := hr; clear hr)
      | (go_at_call 33; refine cF.mono ?_; clear cF; rintro e w2 ⟨rfl, hF2, hb2⟩; have cI := indexFunc_any f rs w.heap.size y a n c w2 (HRr.out.below hb2) hF2 hl.out; clear hF2)
      | (go_at_call 32; refine cI.mono ?_; clear cI; rintro e w3 ⟨⟨k, rfl, hk⟩, hb3⟩))
    obtain ⟨j, rfl, hj⟩ : ∃ j : Nat, k = (j : Int) ∧ rs[j]? = some r := by
      rcases hk with z | ⟨j, r', e, z1, z2⟩
      · exact absurd (hf.out.symm.trans z.2) (by simp)
      · have : r' = r := Option.some.inj (z2.symm.trans hf.out)
        exact ⟨j, e, by rw [z1, this]⟩
    have HR3 := (HRr.out.below hb2).below hb3
    obtain ⟨fa, fn, fc⟩ := f
    have hnc : fn ≤ fc := HR3.cap
    have hcm : fc ≤ maxLen := HR3.most
    unfold maxLen at hcm
    have hjl : j < fn := by
      have e : rs.length = fn := HR3.len
      rw [← e]; exact (List.getElem?_eq_some_iff.1 hj).1
    obtain ⟨gb, hgb, hrow⟩ := HR3.row (by show 0 < fn; omega)
    replace hgb : fa = some gb := hgb
    subst hgb
    have c0 : w3.cell? ⟨gb, j * 5, none⟩ = some (.bool r.al) := hrow j r hj 0 (.bool r.al) rfl
    have hcl : ¬ (j : Int) < 0 := by omega
    have hc2 : (j : Int) < (fn : Int) := by omega
    have HB : Hid (Below w.heap.size w w3) := hb2.trans (hb3.mono hb2.size)
    clear hrow HR3 hj hk HRr hb2 hb3
    unfold rsl
    dsimp only [Option.map]
    go_wp2
    go_ret
    exact ⟨rfl, HB.out⟩
theorem allows_any (s : By) (y : Qy) (a : Option Addr) (n c : Nat) (w : World) (F : Nat → Prop) (q : Nat) (P : Pl) (h : LsAt w F q P) (hs : s.length ≤ 1000000) (hu : P.us.length ≤ 1000000) (hR : TRd w a n c y.gs) (hsb : y.s.length ≤ 9223372036854775807) (hl : (heldR P s).length ≤ 100000) :
    Calls Tryd.prog 16 #[.pointer (some ⟨q, 0, none⟩), .string (ba s), .bool y.i, .string (ba y.c), .slice a n c, .string (ba y.s)] w fun e w' => e = .returned (.bool (allowsR y (heldR P s))) ∧ Below w.heap.size w w' := by
  obtain ⟨mb, m, h⟩ := h
  exact allowsM_any s y a n c w F q mb m P h hs hu hR hsb hl
end Go.Proofs.YtiplalbicibahaaDoor
