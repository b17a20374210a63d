/- privacy: rows of texts and of rules; read. -/
import Derived.Test.YtiplalbicibahaaDoorPvE
set_option maxRecDepth 100000
namespace Go.Proofs.YtiplalbicibahaaDoor
open Go.RowKit Go.Joins Go.Shelf

/-- 'append(v, x)' of one element, its cells in a new block. -/
theorem wp_app1 (t e : TypeId) (z : Value) (size bytes : Nat) (ht : Tryd.prog.underlying t = some (.slice e)) (hif : (Tryd.prog.info? e).map (fun i => (i.zero, i.size, i.bytes)) = some (some z, size, bytes)) (hzs : z.cells.size = size) (hsz : 0 < size) (hby : bytes ≤ 100)
    {w : World} {ops : Array Oper} {rest : List Oper} {o : Oper} {a : Act} {Q : Exit → Act → World → Prop} (hgd : o.guard = none) (s x : Operand)
    (ho : o.op = .call { callee := .builtin .append, args := #[s, x], argTypes := #[t, t] })
    (base : Nat) (v : Value) (n : Nat) (xs : List Value) (hs : a.eval s = v) (hown : w.ownsRow base e size v n xs) (cs : Array Value) (hcs : cs.size = size) (hone : ∀ u ∈ cs.toList, u.oneCell' = true)
    (hx : a.eval x = .slice (some ⟨w.heap.size, 0, none⟩) 1 1) (hn : n ≤ 1000000) (hbase : base ≤ w.heap.size)
    (h : ∀ v' w', w'.ownsRow base e size v' (n + 1) (xs ++ cs.toList) → Keep (fun k => v.ownBlock = some k) w w' → (v' ≠ .slice none 0 0) → wpList Tryd.prog ops Q rest (a.put o.dst v') w') : wpList Tryd.prog ops Q (o :: rest) a (w.alloc (.cells cs e)) := by
  obtain ⟨i0, hi, hz0, hz1, hz2⟩ := info_parts hif
  have hk0 : Keep (fun k => v.ownBlock = some k) w (w.alloc (.cells cs e)) := (Keep.refl _ _).alloc _
  have hown1 : (w.alloc (.cells cs e)).ownsRow base e size v n xs := own_keep (S := fun _ => False) hown ((Keep.refl _ _).alloc _) (fun _ _ h => h)
  refine wpList_append_own (w.alloc (.cells cs e)) hgd s x t ho base e i0 z size bytes ht hi hz0 hz1 hz2 hzs hsz v n xs hs hown1 ⟨w.heap.size, 0, none⟩ 1 1 cs.toList hx (by simp [hcs]) (fun j u hu => ?_) hone (by unfold maxLen; omega) (by
    have : (n + 1) * bytes ≤ (1000000 + 1) * 100 := Nat.mul_le_mul (by omega) hby
    omega) (by simp; omega) ?_
  · rw [add_flat, Nat.zero_add, cell_of_block (alloc_at w (.cells cs e))]
    simpa using hu
  · intro v' w' k1 k2 k3
    refine h v' w' k1 (hk0.trans (Keep.ofGrown k2)) (fun e => ?_)
    have := k3.1 e
    omega
theorem infoStr1 : (Tryd.prog.info? 9).map (fun i => (i.zero, i.size, i.bytes)) = some (some (.string ByteArray.empty), 1, 16) := by kernel_rfl
theorem infoRule5 : (Tryd.prog.info? 23).map (fun i => (i.zero, i.size, i.bytes)) = some (some (.agg #[.bool false, .bool false, .bool false, .string ByteArray.empty, .string ByteArray.empty]), 5, 40) := by kernel_rfl

/-! ### rows of texts -/
/-- What a slice of texts reads as. -/
structure TRd (w : World) (a : Option Addr) (n c : Nat) (ts : List By) : Prop where
  len : ts.length = n
  cap : n ≤ c
  most : c ≤ maxLen
  flat : 0 < n → ∃ b off, a = some ⟨b, off, none⟩ ∧ ∀ j, j < n → w.cell? ⟨b, off + j, none⟩ = some (.string (ba (ts.getD j [])))
  nil0 : a = none → c = 0
theorem TRd.below {w w' : World} {a : Option Addr} {n c : Nat} {ts : List By} (h : TRd w a n c ts) (hb : Below w.heap.size w w') : TRd w' a n c ts := by
  refine ⟨h.len, h.cap, h.most, fun h0 => ?_, h.nil0⟩
  obtain ⟨b, off, e, hc⟩ := h.flat h0
  exact ⟨b, off, e, fun j hj => (hb.cell (World.block_lt_of_cell? w _ (hc j hj))).trans (hc j hj)⟩
theorem TRd.nil (w : World) : TRd w none 0 0 [] := ⟨rfl, Nat.le_refl _, by unfold maxLen; omega, fun h => by omega, fun _ => rfl⟩
def tc (ts : List By) : List Value := ts.map fun t => .string (ba t)
theorem tc_len (ts : List By) : (tc ts).length = ts.length := by simp [tc]
theorem tc_app (ts us : List By) : tc (ts ++ us) = tc ts ++ tc us := by simp [tc]
theorem TRd.ofOwn {w : World} {base : Nat} {v : Value} {n : Nat} {ts : List By} (h : w.ownsRow base 9 1 v n (tc ts)) : ∃ a c, v = .slice a n c ∧ TRd w a n c ts := by
  have hl : ts.length = n := by have := h.1; simpa [tc_len] using this
  rcases h.2 with ⟨hv, hn⟩ | ⟨g, cap, cur, hv, hg, hh, hnc, hm, hsz, ht⟩
  · subst hv; subst hn
    exact ⟨none, 0, rfl, hl, Nat.le_refl _, by unfold maxLen; omega, fun h => by omega, fun _ => rfl⟩
  · subst hv
    refine ⟨some ⟨g, 0, none⟩, cap, rfl, hl, hnc, hm, fun h0 => ⟨g, 0, rfl, fun j hj => ?_⟩, fun e => by cases e⟩
    have hcell := h.cells (g := g) rfl j (.string (ba (ts.getD j []))) (by
      have : j < ts.length := by omega
      simp [tc, List.getD, List.getElem?_eq_getElem this])
    rw [add_flat] at hcell
    exact hcell

/-! ### rows of rules -/
def rcs (rs : List Rul) : List Value := rs.flatMap fun r => (rc r).toList
theorem rcs_len (rs : List Rul) : (rcs rs).length = rs.length * 5 := by
  induction rs with
  | nil => rfl
  | cons a q ih => show (rcs q).length + 5 = _; rw [ih, List.length_cons]; omega
theorem rcs_app (rs qs : List Rul) : rcs (rs ++ qs) = rcs rs ++ rcs qs := by unfold rcs; rw [List.flatMap_append]
theorem rcs_get : ∀ (rs : List Rul) (j : Nat) (r : Rul), rs[j]? = some r → ∀ i u, (rc r)[i]? = some u → (rcs rs)[j * 5 + i]? = some u
  | [], j, r, h, _, _, _ => by cases h
  | a :: q, 0, r, h, i, u, hu => by
    have : a = r := by simpa using h
    subst this
    show ((rc a).toList ++ rcs q)[0 * 5 + i]? = some u
    have hi : i < (rc a).toList.length := by
      have := (Array.getElem?_eq_some_iff.1 hu).1
      simpa using this
    rw [Nat.zero_mul, Nat.zero_add, List.getElem?_append_left hi, Array.getElem?_toList]
    exact hu
  | a :: q, j + 1, r, h, i, u, hu => by
    show ((rc a).toList ++ rcs q)[(j + 1) * 5 + i]? = some u
    have hl : (rc a).toList.length = 5 := rfl
    rw [List.getElem?_append_right (by omega), hl, show (j + 1) * 5 + i - 5 = j * 5 + i by omega]
    exact rcs_get q j r (by simpa using h) i u hu
/-- Where a row of rules lies: its block (none: nil), length, capacity. -/
abbrev Rw := Option Nat × Nat × Nat
def rsl (f : Rw) : Value := .slice (f.1.map fun g => ⟨g, 0, none⟩) f.2.1 f.2.2
structure RRd (w : World) (f : Rw) (rs : List Rul) : Prop where
  len : rs.length = f.2.1
  cap : f.2.1 ≤ f.2.2
  most : f.2.2 ≤ maxLen
  typ : ∀ g, f.1 = some g → ∃ cur, w.heap[g]? = some (.cells cur 23 (0, 0))
  row : 0 < f.2.1 → ∃ g, f.1 = some g ∧ ∀ j r, rs[j]? = some r → w.rangeAt g (j * 5) (rc r).toList
theorem RRd.keep {S : Nat → Prop} {w w' : World} {f : Rw} {rs : List Rul} (h : RRd w f rs) (hk : Keep S w w') (hs : ∀ g, f.1 = some g → ¬ S g) : RRd w' f rs := by
  refine ⟨h.len, h.cap, h.most, fun g hg => ?_, fun h0 => ?_⟩
  · obtain ⟨cur, hc⟩ := h.typ g hg
    exact ⟨cur, box_keep hc hk (hs g hg)⟩
  · obtain ⟨g, hg, hr⟩ := h.row h0
    exact ⟨g, hg, fun j r hj i u hu => hk.cell (p := ⟨g, j * 5 + i, none⟩) (hr j r hj i u hu) (hs g hg)⟩
theorem RRd.below {w w' : World} {f : Rw} {rs : List Rul} (h : RRd w f rs) (hb : Below w.heap.size w w') : RRd w' f rs := h.keep (S := fun _ => False) (Keep.ofBelow hb) (fun _ _ h => h)
theorem RRd.nil (w : World) : RRd w (none, 0, 0) [] := ⟨rfl, Nat.le_refl _, (Nat.zero_le _), (fun _ h => by cases h), (fun h => absurd h (Nat.lt_irrefl 0))⟩
theorem RRd.ofOwn {w : World} {base : Nat} {v : Value} {n : Nat} {rs : List Rul} (h : w.ownsRow base 23 5 v n (rcs rs)) : ∃ f : Rw, v = rsl f ∧ RRd w f rs ∧ f.2.1 = n ∧ ∀ g, f.1 = some g → base ≤ g ∧ g < w.heap.size := by
  have hl : rs.length = n := by have := h.1; rw [rcs_len] at this; omega
  rcases h.2 with ⟨hv, hn⟩ | ⟨g, cap, cur, hv, hg, hh, hnc, hm, hsz, ht⟩
  · subst hv; subst hn
    have : rs = [] := List.eq_nil_of_length_eq_zero hl
    subst this
    exact ⟨(none, 0, 0), rfl, RRd.nil w, rfl, fun g h => by cases h⟩
  · subst hv
    refine ⟨(some g, n, cap), rfl, ⟨hl, hnc, hm, fun g' e => by cases e; exact ⟨cur, hh⟩, fun _ => ⟨g, rfl, fun j r hj i u hu => ?_⟩⟩, rfl, fun g' e => by cases e; exact ⟨hg, box_lt hh⟩⟩
    have hcell := h.cells (g := g) rfl (j * 5 + i) u (rcs_get rs j r hj i u (by rw [← Array.getElem?_toList]; exact hu))
    rw [add_flat, Nat.zero_add] at hcell
    exact hcell

/-! ### read -/
def readR : List By → List Rul × Nat
  | [] => ([], 0)
  | t :: ts => if (parseR t).2 = 0 then (if (readR ts).2 = 0 then ((parseR t).1 :: (readR ts).1, 0) else ([], (readR ts).2)) else ([], (parseR t).2)
theorem readR_bad (ts : List By) : ∀ (ps : List By), (∀ p ∈ ps, (parseR p).2 = 0) → ∀ t, (parseR t).2 ≠ 0 → readR (ps ++ t :: ts) = ([], (parseR t).2)
  | [], _, t, ht => by rw [List.nil_append, readR, if_neg ht]
  | p :: ps, h, t, ht => by
    rw [List.cons_append, readR, if_pos (h p (by simp)), readR_bad ts ps (fun q hq => h q (by simp [hq])) t ht, if_neg ht]
theorem readR_all : ∀ (ps : List By), (∀ p ∈ ps, (parseR p).2 = 0) → readR ps = (ps.map fun p => (parseR p).1, 0)
  | [], _ => rfl
  | p :: ps, h => by rw [readR, if_pos (h p (by simp)), readR_all ps (fun q hq => h q (by simp [hq]))]; rfl
theorem readR_le : ∀ ts : List By, (readR ts).2 = 0 → (readR ts).1.length = ts.length
  | [], _ => rfl
  | t :: ts, h => by
    rw [readR] at h ⊢
    by_cases h1 : (parseR t).2 = 0
    · rw [if_pos h1] at h ⊢
      by_cases h2 : (readR ts).2 = 0
      · rw [if_pos h2]; simp [readR_le ts h2]
      · rw [if_neg h2] at h; exact absurd h h2
    · rw [if_neg h1] at h; exact absurd h h1

/-- What read answers. -/
def Readed (ts : List By) (w : World) (e : Ending) (w' : World) : Prop :=
  (((readR ts).2 = 0 ∧ ∃ v, e = .returned (.tuple #[v, .int .i64 0]) ∧ w'.ownsRow w.heap.size 23 5 v ts.length (rcs (readR ts).1)) ∨ ((readR ts).2 ≠ 0 ∧ e = .returned (.tuple #[.slice none 0 0, .int .i64 ((readR ts).2 : Nat)]))) ∧ Below w.heap.size w w'
theorem ownR_sl {W : World} {lo n sz : Nat} {e : TypeId} {v : Value} {xs : List Value} (h : W.ownsRow lo e sz v n xs) : ∃ a c, v = .slice a n c := by
  rcases h.2 with ⟨rfl, rfl⟩ | ⟨g, cap, cur, rfl, _⟩
  · exact ⟨none, 0, rfl⟩
  · exact ⟨_, _, rfl⟩
set_option maxHeartbeats 2000000 in
theorem read_any (a : Option Addr) (n c : Nat) (ts : List By) (w : World) (hR : TRd w a n c ts) (hn : n ≤ 100000) (hs : ∀ t ∈ ts, t.length ≤ 2000000) (hT : Lib.Utf8Tabs 0 1 w) :
    Calls Tryd.prog 28 #[.slice a n c] w (Readed ts w) := by
  have Hn : Hid (ts.length = n) := hR.len
  have HT : Hid (Lib.Utf8Tabs 0 1 w) := hT
  clear hT
  obtain ⟨N, HN⟩ : ∃ N, Hid (n = N) := ⟨_, rfl⟩
  go_enter Tryd.func28, Tryd.ntmps28
  go_upto_region 3 with fail
  go_loopw [4, 6, 7, 8, 11] (fun s4 _ _ _ s11 wr => ∃ (j : Nat) (v : Value), s4 = v ∧ s11 = .int .i64 j ∧ j ≤ n ∧ Hid (∀ p ∈ ts.take j, (parseR p).2 = 0) ∧ Hid (wr.ownsRow w.heap.size 23 5 v j (rcs ((ts.take j).map fun p => (parseR p).1))) ∧ Hid (Below w.heap.size w wr)) (fun _ _ _ _ s11 _ => n - (intOf s11).toNat)
  case atStart =>
    refine ⟨0, _, rfl, rfl, by omega, fun p hp => by simp at hp, ?_, Below.refl _ _⟩
    exact World.ownsRow_nil _ _ _ _
  case round =>
    obtain ⟨j, v, h4, rfl, hjn, HP, HR, HB⟩ := hrel
    replace h4 := h4.symm
    subst h4
    by_cases hlt : j < n
    · have hcl : (j : Int) < (n : Int) := by omega
      obtain ⟨b, off, rfl, hce⟩ := (hR.below HB.out).flat (by omega)
      have hcj := hce j hlt
      clear hce
      obtain ⟨y, hy⟩ : ∃ y, ts[j]? = some y := ⟨_, List.getElem?_eq_getElem (by rw [Hn.out]; exact hlt)⟩
      rw [show ts.getD j [] = y by rw [List.getD_eq_getElem?_getD, hy]; rfl] at hcj
      have hys := hs y (List.mem_of_getElem? hy)
      have HTk : Hid (ts.take (j + 1) = ts.take j ++ [y]) := by
        show _ = _
        rw [List.take_add_one, hy]; rfl
      have HTd : Hid (ts = ts.take j ++ y :: ts.drop (j + 1)) := by
        show _ = _
        have e := List.getElem?_eq_some_iff.1 hy
        rw [← e.2]
        exact (List.take_append_drop j ts).symm.trans (by rw [List.drop_eq_getElem_cons e.1])
      have ov := HR.out
      obtain ⟨av, cv, hv⟩ := ownR_sl ov
      subst hv
      clear hy
      have cP := parse_any y wr (by omega) (tabs_bel HT.out (HB.out.mono (by omega)))
      have HY : Hid ((parseR y).2 ≠ 0 → readR ts = ([], (parseR y).2)) := fun h => by
        have e := HTd.out
        have := readR_bad (ts.drop (j + 1)) (ts.take j) HP.out y h
        rw [← e] at this
        exact this
      unfold prv at cP
      have HM : Hid ((parseR y).2 = 0 → (∀ p ∈ ts.take (j + 1), (parseR p).2 = 0) ∧ rcs ((ts.take (j + 1)).map fun p => (parseR p).1) = rcs ((ts.take j).map fun p => (parseR p).1) ++ (rc (parseR y).1).toList) := fun h => by
        rw [HTk.out]
        refine ⟨fun p hp => ?_, ?_⟩
        · rcases List.mem_append.1 hp with q | q
          · exact HP.out p q
          · have : p = y := by simpa using q
            rw [this]; exact h
        · rw [List.map_append, rcs_app]; rfl
      generalize parseR y = p at cP HY HM
      obtain ⟨r, en⟩ := p
      obtain ⟨al, i, o, k, vv⟩ := r
      dsimp only at cP HY HM
      by_cases he : en = 0
      · have HM1 : Hid _ := HM.out he
        subst he
        obtain ⟨V, HV⟩ : ∃ V, Hid (rv ⟨al, i, o, k, vv⟩ = V) := ⟨_, rfl⟩
        rw [HV.out] at cP
        have hsz := HB.out.size
        go_upto_region 6 with (first
          | (go_at_call 7; refine cP.mono ?_; clear cP; rintro e w5 ⟨rfl, hb5⟩; have ov5 := own_keep (S := fun _ => False) ov (Keep.ofBelow hb5) (fun _ _ h => h))
          | (refine wp_store_ru rfl (.tmp 7) (.tmp 18) rfl w5.heap.size rfl ⟨al, i, o, k, vv⟩ HV.out.symm r0 (push_at _ _ rfl) ?_))
        have A6 : Hid (RuAt ((w5.alloc oRul).setRow w5.heap.size (rc ⟨al, i, o, k, vv⟩)) w5.heap.size ⟨al, i, o, k, vv⟩ ∧ Below w5.heap.size w5 ((w5.alloc oRul).setRow w5.heap.size (rc ⟨al, i, o, k, vv⟩))) :=
          ⟨RuAt.set (w := w5.alloc oRul) (r := r0) (push_at _ _ rfl) _, (below1 w5 oRul).trans ((rowK (w5.alloc oRul) w5.heap.size _).below (by simp) (fun j e => by omega))⟩
        generalize (w5.alloc _).setRow _ _ = w6 at A6 ⊢
        have ov6 := own_keep (S := fun _ => False) ov5 (Keep.ofBelow A6.out.2) (fun _ _ h => h)
        have HB6 : Hid (Below w.heap.size w w6) := (HB.out.trans (hb5.mono hsz)).trans (A6.out.2.mono (Nat.le_trans hsz hb5.size))
        clear ov ov5 HB hsz HP HR hb5 HY HTd HTk hR hcj
        generalize w5.heap.size = g at A6 ⊢
        go_wp2_with (first
          | (refine wp_load_ru rfl (.tmp 7) rfl g rfl ⟨al, i, o, k, vv⟩ A6.out.1 ?_; unfold rv rc; dsimp only)
          | (at_builtin; refine wp_app1 66 23 _ 5 40 Tryd.underlying66 infoRule5 rfl (by decide) (by decide) rfl (.tmp 23) (.tmp 25) rfl w.heap.size (.slice av j cv) j (rcs ((ts.take j).map fun p => (parseR p).1)) rfl ov6 #[.bool al, .bool i, .bool o, .string (ba k), .string (ba vv)] rfl (by simp [Value.oneCell']) rfl (by omega) HB6.out.size ?_; intro v7 w7 o7 k7 n7))
        have HB7 : Below w.heap.size w w7 := HB6.out.trans (k7.below HB6.out.size (fun g' hg => (ov6.lt g' hg).1))
        refine ⟨⟨j + 1, _, rfl, by go_num, by omega, HM1.out.1, ?_, HB7⟩, by simp [intOf]; omega⟩
        show World.ownsRow _ _ _ _ _ _ _
        rw [HM1.out.2]
        exact o7
      · have hy := HY.out he
        have hd : ((en : Int) != 0) = true := by simp; omega
        replace he : Hid (en ≠ 0) := he
        obtain ⟨V, HV⟩ : ∃ V, Hid (rv ⟨al, i, o, k, vv⟩ = V) := ⟨_, rfl⟩
        rw [HV.out] at cP
        have HE : Hid (Readed ts w (.returned (.tuple #[.slice none 0 0, .int .i64 en])) = fun w' => Below w.heap.size w w') := by
          show _ = _
          unfold Readed
          rw [hy]
          funext w'
          exact propext ⟨fun h => h.2, fun h => ⟨Or.inr ⟨he.out, rfl⟩, h⟩⟩
        have hsz := HB.out.size
        clear HY HM HTd HTk hR HP HR ov hy
        go_wp2_with (first
          | (go_at_call 7; refine cP.mono ?_; clear cP; rintro e w5 ⟨rfl, hb5⟩)
          | (refine wp_store_ru rfl (.tmp 7) (.tmp 18) rfl w5.heap.size rfl ⟨al, i, o, k, vv⟩ HV.out.symm r0 (push_at _ _ rfl) ?_))
        go_ret2
        show Readed ts w (.returned (.tuple #[.slice none 0 0, .int .i64 en])) _
        rw [HE.out]
        exact (HB.out.trans (hb5.mono hsz)).trans (((below1 w5 oRul).trans ((rowK (w5.alloc oRul) w5.heap.size _).below (by simp) (fun j e => by omega))).mono (Nat.le_trans hsz hb5.size))
    · have hcl : ¬ (j : Int) < (n : Int) := by omega
      obtain rfl : j = n := by omega
      have hall : readR ts = (ts.map fun p => (parseR p).1, 0) := by
        have := HP.out
        rw [List.take_of_length_le (by rw [Hn.out]; exact Nat.le_refl _)] at this
        exact readR_all ts this
      have hR9 := HR.out
      rw [List.take_of_length_le (by rw [Hn.out]; exact Nat.le_refl _)] at hR9
      have HF : Hid (Readed ts w (.returned (.tuple #[v, .int .i64 0])) wr) := by
        refine ⟨Or.inl ⟨by rw [hall], v, rfl, ?_⟩, HB.out⟩
        rw [hall, Hn.out]
        exact hR9
      clear hall hR9 HR HP
      go_wp2
      go_ret2
      exact HF.out
end Go.Proofs.YtiplalbicibahaaDoor
