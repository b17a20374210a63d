/- Texts of one seat, one behind the other: PvPe, PvZo, PvPf, PvPg, PvPh. -/
import Derived.Test.YtiplalbicibahaaGreatDoorM7
/- privacy: the document's Load. -/
set_option maxRecDepth 100000
namespace Go.Proofs.YtiplalbicibahaaGreatDoor
open Go.RowKit Go.Joins Go.Shelf

/-- The document's lists at q, all in blocks from B on that are none of Z's. -/
structure Sq (B : Nat) (w0 w : World) (q : Nat) (P : Pl) (Z : Nat → Prop) : Prop where
  ex : ∃ F, QAt w F q P ∧ ∀ i, F i → B ≤ i ∧ ¬ Z i
  bl : Below B w0 w
  sz : B ≤ w.heap.size
  zl : ∀ i, Z i → i < w.heap.size
section
variable {B : Nat} {w0 w w' : World} {q : Nat} {P P' : Pl} {Z : Nat → Prop}
theorem Sq.below (h : Sq B w0 w q P Z) (hb : Below w.heap.size w w') : Sq B w0 w' q P Z := by
  obtain ⟨F, hL, hF⟩ := h.ex
  exact ⟨⟨F, hL.below hb, hF⟩, h.bl.trans (hb.mono h.sz), Nat.le_trans h.sz hb.size, fun i hi => Nat.lt_of_lt_of_le (h.zl i hi) hb.size⟩
theorem Sq.qq (h : Sq B w0 w q P Z) {F : Nat → Prop} (hF : ∀ i, F i → B ≤ i ∧ ¬ Z i) (hq : Qq w F q P' w') : Sq B w0 w' q P' Z ∧ Keep (Oth B Z) w w' := by
  obtain ⟨F', hL', hk, hn⟩ := hq
  have hk' : Keep (Oth B Z) w w' := hk.mono hF
  refine ⟨⟨⟨F', hL', fun i hi => ?_⟩, h.bl.trans (hk'.below h.sz (fun i hi => hi.1)), Nat.le_trans h.sz hk.size, fun i hi => Nat.lt_of_lt_of_le (h.zl i hi) hk.size⟩, hk'⟩
  rcases hn i hi with z | z
  · exact hF i z
  · exact ⟨Nat.le_trans h.sz z, fun y => by have := h.zl i y; omega⟩
theorem sq_set (h : Sq B w0 w q P Z) (s : By) (a : Option Addr) (n c : Nat) (ts : List By) (hs : s.length ≤ 80) (hR : TRd w a n c ts) (hn : n ≤ 20) (hts : ∀ t ∈ ts, t.length ≤ 2000) (hk : P.ks.length ≤ 1000) :
    Calls Tryz.prog 19 #[.pointer (some ⟨q, 0, none⟩), .string (ba s), .slice a n c] w fun e w' => e = .returned (.int .i64 ((setR P s ts).1 : Nat)) ∧ Hid (Sq B w0 w' q (setR P s ts).2 Z ∧ Keep (Oth B Z) w w') := by
  obtain ⟨F, hL, hF⟩ := h.ex
  exact (qset_any s a n c ts w F q P hL (by omega) hR (by omega) (fun t ht => by have := hts t ht; omega) hk).mono (fun e w' hh => ⟨hh.1, h.qq hF hh.2⟩)
theorem sq_default (h : Sq B w0 w q P Z) (s : By) :
    Calls Tryz.prog 27 #[.pointer (some ⟨q, 0, none⟩), .string (ba s)] w fun e w' => e = .returned (.int .i64 ((defaultR P s).1 : Nat)) ∧ Hid (Sq B w0 w' q (defaultR P s).2 Z ∧ Keep (Oth B Z) w w') := by
  obtain ⟨F, hL, hF⟩ := h.ex
  exact (qdefault_any s w F q P hL).mono (fun e w' hh => ⟨hh.1, h.qq hF ⟨F, hh.2.1, hh.2.2, fun i hi => Or.inl hi⟩⟩)
end
theorem qword_b (s : By) (w : World) (hs : s.length ≤ 281474976710656) : Calls Tryz.prog 37 #[.string (ba s)] w fun e w' => e = .returned (.int .i64 (nameE s : Nat)) ∧ w' = w := by
  have := qWord_any (ba s) w (by rw [ba_size]; exact hs)
  rw [ba_list] at this
  exact this

/-! ### how many names there may be (pure) -/
theorem rise_asc : ∀ {ns : List By}, riseR ns = true → Asc ns
  | [], _ => List.Pairwise.nil
  | [x], _ => List.pairwise_singleton _ _
  | x :: y :: r, h => by
    rw [rise_cons, Bool.and_eq_true] at h
    have ih := rise_asc h.2
    refine List.pairwise_cons.2 ⟨fun z hz => ?_, ih⟩
    rcases List.mem_cons.1 hz with e | e
    · rw [e]; exact of_decide_eq_true h.1
    · exact lt_tr (of_decide_eq_true h.1) ((List.pairwise_cons.1 ih).1 z e)
theorem fill_len : ∀ (ns : List By) (A A' : Pl) (tss : List (List By)), fillR A ns tss = some A' → ns.Nodup → (∀ s ∈ ns, A.m s = none) → ns ≠ [] → ((A.ks.length + ns.length : Nat) : Int) ≤ A.li
  | [], A, A', tss, h, _, _, hne => absurd rfl hne
  | s :: ns, A, A', tss, h, hnd, hno, _ => by
    rw [fillR] at h
    cases hst : stepB A s (tss.headD []) with
    | false => rw [hst, if_neg (by decide)] at h; cases h
    | true =>
      rw [hst, if_pos rfl] at h
      obtain ⟨_, _, _, _, h5, h6⟩ := step_yes hst
      obtain ⟨n1, n2⟩ := List.nodup_cons.1 hnd
      have hs0 : A.m s = none := hno s (List.mem_cons_self ..)
      have hlt : (A.ks.length : Int) + 1 ≤ A.li := by
        unfold fullR at h6
        rw [hs0] at h6
        simp at h6
        omega
      rw [h5] at h
      have hks : (putP A s (readR (tss.headD [])).1).ks.length = A.ks.length + 1 := by
        unfold putP
        rw [hs0, if_neg (by simp)]
        rfl
      cases ns with
      | nil => rw [List.length_cons, List.length_nil]; omega
      | cons y r =>
        have ih := fill_len (y :: r) (putP A s (readR (tss.headD [])).1) A' tss.tail h n2 (fun u hu => by
          have hus : u ≠ s := fun e => n1 (by rw [← e]; exact hu)
          unfold putP
          dsimp only
          rw [putM_other _ _ hus]
          exact hno u (List.mem_cons_of_mem _ hu)) (by simp)
        rw [hks] at ih
        have hli : (putP A s (readR (tss.headD [])).1).li = A.li := rfl
        rw [hli] at ih
        rw [List.length_cons] at ih ⊢
        rw [List.length_cons]
        omega
theorem load_many {li ru : Int} {us : By} {ns : List By} {tss : List (List By)} (hl : bnd li = true) (h : li < (ns.length : Int)) : loadR li ru us ns tss = none := by
  by_cases hc : (bnd li && bnd ru) = true ∧ tss.length = ns.length ∧ riseR ns = true
  · rw [load_yes hc]
    cases hf : fillR (pl0 li ru) ns tss with
    | none => rfl
    | some A =>
      exfalso
      have hne : ns ≠ [] := fun e => by
        subst e
        have := (bnd_nn hl).1
        simp at h
        omega
      have := fill_len ns (pl0 li ru) A tss hf (asc_nodup (rise_asc hc.2.2)) (fun s hs => rfl) hne
      have e1 : (pl0 li ru).ks.length = 0 := rfl
      have e2 : (pl0 li ru).li = li := rfl
      rw [e1, e2] at this
      omega
  · exact load_no hc
theorem load_q {li ru : Int} {us : By} {ns : List By} {tss : List (List By)} (hb : (bnd li && bnd ru) = true) (hl : tss.length = ns.length) : loadR li ru us ns tss = lastR us (fillQ none (pl0 li ru) ns tss) := by
  rw [fillQ_is]
  show _ = lastR us (if riseR ns = true then _ else _)
  by_cases hr : riseR ns = true
  · rw [load_yes ⟨hb, hl, hr⟩, if_pos hr]
  · rw [load_no (fun h => hr h.2.2), if_neg hr]; rfl
def pvO (ns : List By) (j : Nat) : Option By := if j = 0 then none else some (ns.getD (j - 1) [])
theorem fillQ_step {P : Pl} {ns : List By} {tss : List (List By)} {j : Nat} {s : By} {ts : List By} (hs : ns[j]? = some s) (ht : tss[j]? = some ts) : fillQ (pvO ns j) P (ns.drop j) (tss.drop j) = if riseO (pvO ns j) s = true ∧ stepB P s ts = true then fillQ (pvO ns (j + 1)) (setR P s ts).2 (ns.drop (j + 1)) (tss.drop (j + 1)) else none := by
  have e1 := List.getElem?_eq_some_iff.1 hs
  have e2 := List.getElem?_eq_some_iff.1 ht
  rw [List.drop_eq_getElem_cons e1.1, List.drop_eq_getElem_cons e2.1, e1.2, e2.2]
  have : pvO ns (j + 1) = some s := by
    unfold pvO
    rw [if_neg (by omega), Nat.add_sub_cancel, List.getD_eq_getElem?_getD, hs]
    rfl
  rw [this]
  rfl
theorem setR_ru (P : Pl) (s : By) (ts : List By) : (setR P s ts).2.ru = P.ru := by
  unfold setR
  split
  · rfl
  · split
    · rfl
    · split
      · rfl
      · rfl
/-- What the document's Load tells. -/
def LoadedQ (w : World) (o : Option Pl) (e : Ending) (w' : World) : Prop :=
  match o with
  | none => e = .returned (.tuple #[.pointer none, .bool false])
  | some P => ∃ p F, e = .returned (.tuple #[.pointer (some ⟨p, 0, none⟩), .bool true]) ∧ QAt w' F p P ∧ ∀ i, F i → w.heap.size ≤ i
set_option maxHeartbeats 1600000 in
theorem qLoad_bad (a : Option Addr) (n c : Nat) (a2 : Option Addr) (n2 c2 : Nat) (w : World) (li ru : Int) (us : By) (hb : (bnd li && bnd ru) = false) :
    Calls Tryz.prog 15 #[.agg (shc li ru us (.slice a n c) (.slice a2 n2 c2))] w fun e w' => e = .returned (.tuple #[.pointer none, .bool false]) ∧ Below w.heap.size w w' := by
  have HX : Hid (ShAt (w.alloc (.cells (shc li ru us (.slice a n c) (.slice a2 n2 c2)) 38)) w.heap.size (shc li ru us (.slice a n c) (.slice a2 n2 c2)) ∧ Below w.heap.size w (w.alloc (.cells (shc li ru us (.slice a n c) (.slice a2 n2 c2)) 38))) := ⟨push_at _ _ rfl, below1 _ _⟩
  have cN := fun w => qnew_bad li ru w hb
  clear hb
  go_enter Tryz.func15, Tryz.ntmps15
  go_upto_region 1 with fail
  generalize w.alloc _ = X at HX ⊢
  have u0 := sh0 HX.out.1
  have u1 := sh1 HX.out.1
  go_wp2_with (go_at_call 7; refine (cN _).mono ?_; clear cN; rintro e w1 ⟨rfl, hw1⟩; replace hw1 := hw1.symm; subst hw1)
  go_ret2
  exact ⟨rfl, HX.out.2⟩
set_option maxHeartbeats 6400000 in
theorem qLoad_ok (a : Option Addr) (n c : Nat) (a2 : Option Addr) (n2 c2 : Nat) (w : World) (li ru : Int) (us : By) (ns : List By) (tss : List (List By)) (hN : TRd w a n c ns) (hT : TTd w a2 n2 c2 tss) (hS : Small us ns tss) (hl : bnd li = true) (hr : bnd ru = true) :
    Calls Tryz.prog 15 #[.agg (shc li ru us (.slice a n c) (.slice a2 n2 c2))] w fun e w' => LoadedQ w (loadR li ru us ns tss) e w' ∧ Below w.heap.size w w' := by
  obtain ⟨B, HB⟩ : ∃ B, Hid (w.heap.size = B) := ⟨_, rfl⟩
  have HA : Hid (TRd w a n c ns ∧ TTd w a2 n2 c2 tss ∧ Small us ns tss) := ⟨hN, hT, hS⟩
  have HX : Hid (ShAt (w.alloc (.cells (shc li ru us (.slice a n c) (.slice a2 n2 c2)) 38)) B (shc li ru us (.slice a n c) (.slice a2 n2 c2)) ∧ Below B w (w.alloc (.cells (shc li ru us (.slice a n c) (.slice a2 n2 c2)) 38)) ∧ (w.alloc (.cells (shc li ru us (.slice a n c) (.slice a2 n2 c2)) 38)).heap.size = B + 1) := by
    rw [← HB.out]
    exact ⟨push_at _ _ rfl, below1 _ _, by simp⟩
  have cN : Hid (∀ w, Calls Tryz.prog 7 #[.int .i64 li, .int .i64 ru] w fun e w' => e = .returned (.tuple #[.pointer (some ⟨w.heap.size, 0, none⟩), .bool true]) ∧ QAt w' (fun i => i = w.heap.size) w.heap.size (pl0 li ru) ∧ Below w.heap.size w w') := fun w => qnew_ok li ru w hl hr
  have hcap := hN.cap
  have hmost := hN.most
  have hcap2 := hT.cap
  have hmost2 := hT.most
  unfold maxLen at hmost hmost2
  have Hn : Hid (ns.length = n ∧ tss.length = n2) := ⟨hN.len, hT.len⟩
  have hbb : Hid ((bnd li && bnd ru) = true ∧ bnd li = true) := ⟨by rw [hl, hr]; rfl, hl⟩
  have hZ : Hid (Nice (pl0 li ru) 0) := Nice.zero li ru
  obtain ⟨LR, HLR⟩ : ∃ LR, Hid (loadR li ru us ns tss = LR) := ⟨_, rfl⟩
  rw [HLR.out]
  clear hN hT hS hl hr
  go_enter Tryz.func15, Tryz.ntmps15
  go_upto_region 1 with fail
  rw [HB.out]
  generalize w.alloc _ = X at HX ⊢
  have u0 := sh0 HX.out.1
  have u1 := sh1 HX.out.1
  have cN1 := cN.out X
  rw [HX.out.2.2] at cN1
  go_upto_region 2 with (go_at_call 7; refine cN1.mono ?_; clear cN1; rintro e w1 ⟨rfl, h1, hb1⟩)
  have H1 : Hid (Sq B w w1 (B + 1) (pl0 li ru) (fun i => i = B) ∧ ShAt w1 B (shc li ru us (.slice a n c) (.slice a2 n2 c2))) := by
    rw [← HX.out.2.2] at hb1
    have hz := HX.out.2.2
    have hz1 := hb1.size
    exact ⟨⟨⟨_, h1, fun i hi => by omega⟩, HX.out.2.1.trans (hb1.mono (by omega)), by omega, fun i hi => by omega⟩, box_below HX.out.1 hb1⟩
  clear h1 hb1 HX cN u0 u1
  have u0 := sh0 H1.out.2
  have u3 := sh3 H1.out.2
  have u4 := sh4 H1.out.2
  by_cases hmany : li < (n : Int)
  · have hm : decide (li < (n : Int)) = true := decide_eq_true hmany
    have hLR : none = LR := (load_many hbb.out.2 (by rw [Hn.out.1]; exact hmany)).symm.trans HLR.out
    clear hmany
    go_wp2
    go_ret2
    exact ⟨by rw [← hLR]; rfl, by rw [HB.out]; exact H1.out.1.bl⟩
  · have hm : decide (li < (n : Int)) = false := decide_eq_false hmany
    clear hmany
    by_cases hnn : n2 = n
    · subst hnn
      have f1 : ((n2 : Int) != (n2 : Int)) = false := by simp
      obtain ⟨R, HR⟩ : ∃ R, Hid (fillQ none (pl0 li ru) ns tss = R) := ⟨_, rfl⟩
      have hLR : Hid (LR = lastR us R) := by show LR = _; rw [← HLR.out, load_q hbb.out.1 (by rw [Hn.out.1, Hn.out.2]), HR.out]
      go_upto_region 5 with fail
      clear u0 u3 u4 f1 hm
      go_loopw [6, 7, 8, 9] (fun s6 _ _ _ wr => ∃ (j : Nat) (P : Pl), s6 = .int .i64 (j : Int) ∧ j ≤ n2 ∧ Hid (fillQ (pvO ns j) P (ns.drop j) (tss.drop j) = R) ∧ Hid (Nice P j ∧ P.ru = ru ∧ P.us = []) ∧ Hid (Sq B w wr (B + 1) P (fun i => i = B) ∧ ShAt wr B (shc li ru us (.slice a n2 c) (.slice a2 n2 c2)))) (fun s6 _ _ _ _ => n2 - (intOf s6).toNat)
      case atStart => exact ⟨0, pl0 li ru, rfl, by omega, HR, ⟨hZ.out, rfl, rfl⟩, H1⟩
      case round =>
        clear H1 hZ
        obtain ⟨j, P, rfl, hj, HF, HN, HS⟩ := hrel
        have u3 := sh3 HS.out.2
        by_cases hlt : j < n2
        · have hcl : (j : Int) < (n2 : Int) := by omega
          have hj0 : (0 : Int) ≤ (j : Int) := by omega
          have hbw : Below w.heap.size w wr := by rw [HB.out]; exact HS.out.1.bl
          obtain ⟨b, off, rfl, hce⟩ := (HA.out.1.below hbw).flat (by omega)
          have hcj := hce j hlt
          obtain ⟨tb, toff, rfl, hct⟩ := (HA.out.2.1.below hbw).flat (by omega)
          obtain ⟨y1, k1, l1, y2, y3⟩ := hct j hlt
          obtain ⟨s, hs⟩ : ∃ s, ns[j]? = some s := ⟨_, List.getElem?_eq_getElem (by rw [Hn.out.1]; exact hlt)⟩
          obtain ⟨ts, hts⟩ : ∃ ts, tss[j]? = some ts := ⟨_, List.getElem?_eq_getElem (by rw [Hn.out.2]; exact hlt)⟩
          rw [show ns.getD j [] = s by rw [List.getD_eq_getElem?_getD, hs]; rfl] at hcj
          rw [show tss.getD j [] = ts by rw [List.getD_eq_getElem?_getD, hts]; rfl] at y3
          have HF2 := HF.out
          rw [fillQ_step hs hts] at HF2
          replace HF2 : Hid _ := HF2
          have hsl : Hid (s.length ≤ 80) := HA.out.2.2.nl s (List.mem_of_getElem? hs)
          have htl : Hid (ts.length ≤ 20 ∧ ∀ t ∈ ts, t.length ≤ 2000) := HA.out.2.2.t ts (List.mem_of_getElem? hts)
          have hj2 : Hid (j ≤ 200) := by have := HA.out.2.2.n; have := Hn.out.1; show j ≤ 200; omega
          have hce' : Hid (∀ i, i < n2 → wr.cell? ⟨b, off + i, none⟩ = some (.string (ba (ns.getD i [])))) := hce
          have hbB : Hid (b < B ∧ tb < B) := by
            obtain ⟨b', off', e', hx'⟩ := HA.out.1.flat (by omega)
            injection e' with e'
            injection e' with e1 e2
            obtain ⟨t', toff', f', hy'⟩ := HA.out.2.1.flat (by omega)
            injection f' with f'
            injection f' with f1 f2
            obtain ⟨_, _, _, z1, _⟩ := hy' j hlt
            have h1 := World.block_lt_of_cell? w _ (hx' j hlt)
            have h2 := World.block_lt_of_cell? w _ z1
            have h0 := HB.out
            dsimp only at h1 h2
            show b < B ∧ tb < B
            omega
          clear hce hct hs hts HF
          have y3' : Hid (TRd wr y1 k1 l1 ts) := y3
          have u1 := sh1 HS.out.2
          have u4 := sh4 HS.out.2
          have hk1c := y3.cap
          have hk1m := y3.most
          unfold maxLen at hk1m
          clear y3 hbw
          have cW : Hid (∀ W, Calls Tryz.prog 37 #[.string (ba s)] W fun e w' => e = .returned (.int .i64 (nameE s : Nat)) ∧ w' = W) := fun W => qword_b s W (by have := hsl.out; omega)
          go_upto_region 7 with fail
          obtain ⟨bad, Hbad⟩ : ∃ bad, Hid ((!(riseO (pvO ns j) s) || (((nameE s : Nat) : Int) != 0) || decide (ru < (k1 : Int))) = bad) := ⟨_, rfl⟩
          go_cut [79] from 44 to 79 (fun s79 wx => s79 = .bool bad ∧ Hid (Keep (fun _ => False) wr wx))
          case first =>
            by_cases hz : j = 0
            · have d0 : decide (0 < j) = false := by rw [hz]; rfl
              have d1 : ¬ 0 < j := by omega
              have hro : riseO (pvO ns j) s = true := by unfold pvO; rw [if_pos hz]; rfl
              clear hz
              cases e2 : (((nameE s : Nat) : Int) != 0) with
              | true =>
                have hb := Hbad.out
                rw [hro, e2] at hb
                have hb : true = bad := hb
                subst hb
                go_quiet ((go_at_call 37; exact Calls.quiet_of_same (cW.out _)))
                go_wp2_with fail
                go_meet
                exact ⟨rfl, keepDrew (fun _ => False) wr nq⟩
              | false =>
                cases e3 : decide (ru < (k1 : Int)) with
                | true =>
                  have hb := Hbad.out
                  rw [hro, e2, e3] at hb
                  have hb : true = bad := hb
                  subst hb
                  go_quiet ((go_at_call 37; exact Calls.quiet_of_same (cW.out _)))
                  go_wp2_with fail
                  go_meet
                  exact ⟨rfl, keepDrew (fun _ => False) wr nq⟩
                | false =>
                  have hb := Hbad.out
                  rw [hro, e2, e3] at hb
                  have hb : false = bad := hb
                  subst hb
                  go_quiet ((go_at_call 37; exact Calls.quiet_of_same (cW.out _)))
                  go_wp2_with fail
                  go_meet
                  exact ⟨rfl, keepDrew (fun _ => False) wr nq⟩
            · have d0 : decide (0 < j) = true := decide_eq_true (by omega)
              have d1 : 0 < j := by omega
              have hcp := hce'.out (j - 1) (by omega)
              have hT : ((j : Int) - 1).toNat = j - 1 := by omega
              have hp0 : (0 : Int) ≤ (j : Int) - 1 := by omega
              have hp1 : (j : Int) - 1 < (n2 : Int) := by omega
              have hro0 : riseO (pvO ns j) s = ltB (ns.getD (j - 1) []) s := by unfold pvO; rw [if_neg hz]; rfl
              have hle := less_eq (ns.getD (j - 1) []) s
              clear hz
              cases hlb : ltB (ns.getD (j - 1) []) s with
              | false =>
                rw [hlb] at hle hro0
                have hb := Hbad.out
                rw [hro0] at hb
                have hb : true = bad := hb
                subst hb
                generalize ba (ns.getD (j - 1) []) = SP at *
                go_quiet (fail)
                go_wp2_with fail
                go_meet
                exact ⟨rfl, keepDrew (fun _ => False) wr nq⟩
              | true =>
                rw [hlb] at hle hro0
                have hro := hro0
                generalize ba (ns.getD (j - 1) []) = SP at *
                cases e2 : (((nameE s : Nat) : Int) != 0) with
                | true =>
                  have hb := Hbad.out
                  rw [hro, e2] at hb
                  have hb : true = bad := hb
                  subst hb
                  go_quiet ((go_at_call 37; exact Calls.quiet_of_same (cW.out _)))
                  go_wp2_with fail
                  go_meet
                  exact ⟨rfl, keepDrew (fun _ => False) wr nq⟩
                | false =>
                  cases e3 : decide (ru < (k1 : Int)) with
                  | true =>
                    have hb := Hbad.out
                    rw [hro, e2, e3] at hb
                    have hb : true = bad := hb
                    subst hb
                    go_quiet ((go_at_call 37; exact Calls.quiet_of_same (cW.out _)))
                    go_wp2_with fail
                    go_meet
                    exact ⟨rfl, keepDrew (fun _ => False) wr nq⟩
                  | false =>
                    have hb := Hbad.out
                    rw [hro, e2, e3] at hb
                    have hb : false = bad := hb
                    subst hb
                    go_quiet ((go_at_call 37; exact Calls.quiet_of_same (cW.out _)))
                    go_wp2_with fail
                    go_meet
                    exact ⟨rfl, keepDrew (fun _ => False) wr nq⟩
          case rest =>
            obtain ⟨rfl, HK⟩ := hcut
            have HB2 : Hid (Below wr.heap.size wr wc) := HK.out.below (Nat.le_refl _) (fun j e => e.elim)
            have S2 : Hid (Sq B w wc (B + 1) P (fun i => i = B) ∧ ShAt wc B (shc li ru us (.slice (some ⟨b, off, none⟩) n2 c) (.slice (some ⟨tb, toff, none⟩) n2 c2)) ∧ TRd wc y1 k1 l1 ts ∧ wc.cell? ⟨tb, toff + j, none⟩ = some (.slice y1 k1 l1) ∧ wc.cell? ⟨b, off + j, none⟩ = some (.string (ba s))) :=
              ⟨HS.out.1.below HB2.out, box_below HS.out.2 HB2.out, y3'.out.below HB2.out, HK.out.cell y2 (fun e => e), HK.out.cell hcj (fun e => e)⟩
            clear u1 u3 u4 y2 y3' HS HK HB2 hcj hce'
            cases bad with
            | true =>
              have HF3 : Hid (LR = none) := by
                have h1 := HF2.out
                rw [if_neg] at h1
                · show LR = none
                  rw [hLR.out, ← h1]; rfl
                · rintro ⟨g1, g2⟩
                  obtain ⟨x1, x2, _⟩ := step_yes g2
                  have hb := Hbad.out
                  have hlen : ts.length = k1 := S2.out.2.2.1.len
                  rw [g1, x1] at hb
                  simp at hb
                  rw [HN.out.2.1] at x2
                  omega
              go_wp2
              go_ret2
              exact ⟨by rw [HF3.out]; rfl, by rw [HB.out]; exact S2.out.1.bl⟩
            | false =>
              have HG0 : Hid (riseO (pvO ns j) s = true ∧ (ts.length : Int) ≤ P.ru) := by
                have hb := Hbad.out
                have hlen : ts.length = k1 := S2.out.2.2.1.len
                simp at hb
                exact ⟨hb.1.1, by rw [HN.out.2.1, hlen]; omega⟩
              clear Hbad cW
              go_upto_region 10 with fail
              go_loopw [7, 8, 9] (fun s7 _ _ w3 => ∃ (k : Nat), s7 = .int .i64 (k : Int) ∧ k ≤ k1 ∧ Hid (∀ t ∈ ts.take k, (parseR t).2 = 0 ∧ writeQ (parseR t).1 = t) ∧ Hid (Below wc.heap.size wc w3)) (fun s7 _ _ _ => k1 - (intOf s7).toNat)
              case atStart => exact ⟨0, rfl, by omega, fun t ht => by simp at ht, Below.refl _ _⟩
              case round =>
                obtain ⟨k, rfl, hk, HG, HB3⟩ := hrel
                have hq4 := sh4 (box_below S2.out.2.1 HB3.out)
                have hqy : wr.cell? ⟨tb, toff + j, none⟩ = some (.slice y1 k1 l1) := (HB3.out.cell (World.block_lt_of_cell? _ _ S2.out.2.2.2.1)).trans S2.out.2.2.2.1
                have Hkl : Hid (ts.length = k1) := S2.out.2.2.1.len
                by_cases hlk : k < k1
                · have hck : (k : Int) < (k1 : Int) := by omega
                  have hk0 : (0 : Int) ≤ (k : Int) := by omega
                  obtain ⟨yb, yoff, rfl, hyc⟩ := (S2.out.2.2.1.below HB3.out).flat (by omega)
                  have hyk := hyc k hlk
                  obtain ⟨t, ht⟩ : ∃ t, ts[k]? = some t := ⟨_, List.getElem?_eq_getElem (by rw [Hkl.out]; exact hlk)⟩
                  rw [show ts.getD k [] = t by rw [List.getD_eq_getElem?_getD, ht]; rfl] at hyk
                  have htm : Hid (t ∈ ts) := List.mem_of_getElem? ht
                  have HTk : Hid (ts.take (k + 1) = ts.take k ++ [t]) := by
                    show _ = _
                    rw [List.take_add_one, ht]; rfl
                  clear hyc ht
                  have cP := qparse_any t wr (by have := htl.out.2 t htm.out; omega)
                  unfold prv at cP
                  have Hrn : Hid ((parseR t).2 = 0 → RulN (parseR t).1) := fun h => parse_ok h
                  obtain ⟨pr, Hpr⟩ : ∃ pr, Hid (parseR t = pr) := ⟨_, rfl⟩
                  rw [Hpr.out] at cP Hrn
                  obtain ⟨r, en⟩ := pr
                  obtain ⟨al, i, o, kk, vv⟩ := r
                  dsimp only at cP Hrn
                  obtain ⟨V, HV⟩ : ∃ V, Hid (rv ⟨al, i, o, kk, vv⟩ = V) := ⟨_, rfl⟩
                  rw [HV.out] at cP
                  have hsz := HB3.out.size
                  go_upto_region 13 with (first
                    | (go_at_call 38; refine cP.mono ?_; clear cP; rintro e w5 ⟨rfl, hb5⟩)
                    | (refine wp_store_ru rfl (.tmp 8) (.tmp 100) rfl w5.heap.size rfl ⟨al, i, o, kk, vv⟩ HV.out.symm r0 (push_at _ _ rfl) ?_))
                  have A6 : Hid (RuAt ((w5.alloc oRul).setRow w5.heap.size (rc ⟨al, i, o, kk, vv⟩)) w5.heap.size ⟨al, i, o, kk, vv⟩ ∧ Below w5.heap.size w5 ((w5.alloc oRul).setRow w5.heap.size (rc ⟨al, i, o, kk, vv⟩))) :=
                    ⟨RuAt.set (w := w5.alloc oRul) (r := r0) (push_at _ _ rfl) _, (below1 w5 oRul).trans ((rowK (w5.alloc oRul) w5.heap.size _).below (by simp) (fun j e => by omega))⟩
                  generalize (w5.alloc _).setRow _ _ = w6 at A6 ⊢
                  have HB6 : Hid (Below wc.heap.size wc w6.drew) := ((HB3.out.trans (hb5.mono hsz)).trans (A6.out.2.mono (Nat.le_trans hsz hb5.size))).drew
                  have hb56 : Below wr.heap.size wr w6.drew := (hb5.trans (A6.out.2.mono hb5.size)).drew
                  have HS0 : ShAt w6.drew B (shc li ru us (.slice (some ⟨b, off, none⟩) n2 c) (.slice (some ⟨tb, toff, none⟩) n2 c2)) ∧ w6.drew.cell? ⟨tb, toff + j, none⟩ = some (.slice (some ⟨yb, yoff, none⟩) k1 l1) ∧ w6.drew.cell? ⟨yb, yoff + k, none⟩ = some (.string (ba t)) ∧ RuAt w6.drew w5.heap.size ⟨al, i, o, kk, vv⟩ :=
                    ⟨box_below S2.out.2.1 HB6.out, (HB6.out.cell (World.block_lt_of_cell? _ _ S2.out.2.2.2.1)).trans S2.out.2.2.2.1, (hb56.cell (World.block_lt_of_cell? _ _ hyk)).trans hyk, A6.out.1⟩
                  clear hq4 hqy hyk hb56 A6 hb5 HB3 hsz
                  generalize w5.heap.size = g at HS0 ⊢
                  refine wp_region_lx (fun w' => ShAt w' B (shc li ru us (.slice (some ⟨b, off, none⟩) n2 c) (.slice (some ⟨tb, toff, none⟩) n2 c2)) ∧ w'.cell? ⟨tb, toff + j, none⟩ = some (.slice (some ⟨yb, yoff, none⟩) k1 l1) ∧ w'.cell? ⟨yb, yoff + k, none⟩ = some (.string (ba t)) ∧ RuAt w' g ⟨al, i, o, kk, vv⟩) [] 15 (by kernel_rfl) (by kernel_rfl) ?_
                  generalize World.drew _ = Y at HB6 HS0 ⊢
                  by_cases hen : en = 0
                  · subst hen
                    refine lx_rd 0 (.int .i64 0) (by kernel_rfl) (fun _ _ d _ _ h => by cases d <;> exact h) (by kernel_rfl) HS0 rfl rfl rfl (fun w' hS => ?hA0) ?_
                    case hA0 => first | (go_simp; rfl) | go_simp
                    simp only [List.setIfInBounds_toArray, List.set_cons_zero, List.set_cons_succ]
                    refine lx_rd 1 (.bool false) (by kernel_rfl) (fun _ _ d _ _ h => by cases d <;> exact h) (by kernel_rfl) HS0 rfl rfl rfl (fun w' hS => ?hA1) ?_
                    case hA1 => first | (go_simp; rfl) | go_simp
                    simp only [List.setIfInBounds_toArray, List.set_cons_zero, List.set_cons_succ]
                    refine lx_rd 2 (.bool false) (by kernel_rfl) (fun _ _ d _ _ h => by cases d <;> exact h) (by kernel_rfl) HS0 rfl rfl rfl (fun w' hS => ?hA2) ?_
                    case hA2 => first | (go_simp; rfl) | go_simp
                    simp only [List.setIfInBounds_toArray, List.set_cons_zero, List.set_cons_succ]
                    refine lx_rd 3 (rv ⟨al, i, o, kk, vv⟩) (by kernel_rfl) (fun _ _ d _ _ h => by cases d <;> exact h) (by kernel_rfl) HS0 rfl rfl rfl (fun w' hS => ?hA3) ?_
                    case hA3 => exact exec_load_ru (.tmp 8) rfl g rfl ⟨al, i, o, kk, vv⟩ hS.2.2.2
                    simp only [List.setIfInBounds_toArray, List.set_cons_zero, List.set_cons_succ]
                    refine lx_rd 5 (.pointer (some ⟨B, 4, none⟩)) (by kernel_rfl) (fun _ _ d _ _ h => by cases d <;> exact h) (by kernel_rfl) HS0 rfl rfl rfl (fun w' hS => ?hA5) ?_
                    case hA5 => first | (go_simp; rfl) | go_simp
                    simp only [List.setIfInBounds_toArray, List.set_cons_zero, List.set_cons_succ]
                    refine lx_rd 6 (.slice (some ⟨tb, toff, none⟩) n2 c2) (by kernel_rfl) (fun _ _ d _ _ h => by cases d <;> exact h) (by kernel_rfl) HS0 rfl rfl rfl (fun w' hS => ?hA6) ?_
                    case hA6 => have q0 := sh4 hS.1; first | (go_simp; rfl) | go_simp
                    simp only [List.setIfInBounds_toArray, List.set_cons_zero, List.set_cons_succ]
                    refine lx_rd 7 (.int .i64 (j : Int)) (by kernel_rfl) (fun _ _ d _ _ h => by cases d <;> exact h) (by kernel_rfl) HS0 rfl rfl rfl (fun w' hS => ?hA7) ?_
                    case hA7 => first | (go_simp; rfl) | go_simp
                    simp only [List.setIfInBounds_toArray, List.set_cons_zero, List.set_cons_succ]
                    refine lx_rd 8 (.pointer (some ⟨tb, toff + j, none⟩)) (by kernel_rfl) (fun _ _ d _ _ h => by cases d <;> exact h) (by kernel_rfl) HS0 rfl rfl rfl (fun w' hS => ?hA8) ?_
                    case hA8 => first | (go_simp; rfl) | go_simp
                    simp only [List.setIfInBounds_toArray, List.set_cons_zero, List.set_cons_succ]
                    refine lx_rd 9 (.slice (some ⟨yb, yoff, none⟩) k1 l1) (by kernel_rfl) (fun _ _ d _ _ h => by cases d <;> exact h) (by kernel_rfl) HS0 rfl rfl rfl (fun w' hS => ?hA9) ?_
                    case hA9 => have q0 := hS.2.1; first | (go_simp; rfl) | go_simp
                    simp only [List.setIfInBounds_toArray, List.set_cons_zero, List.set_cons_succ]
                    refine lx_rd 10 (.int .i64 (k : Int)) (by kernel_rfl) (fun _ _ d _ _ h => by cases d <;> exact h) (by kernel_rfl) HS0 rfl rfl rfl (fun w' hS => ?hA10) ?_
                    case hA10 => first | (go_simp; rfl) | go_simp
                    simp only [List.setIfInBounds_toArray, List.set_cons_zero, List.set_cons_succ]
                    refine lx_rd 11 (.pointer (some ⟨yb, yoff + k, none⟩)) (by kernel_rfl) (fun _ _ d _ _ h => by cases d <;> exact h) (by kernel_rfl) HS0 rfl rfl rfl (fun w' hS => ?hA11) ?_
                    case hA11 => first | (go_simp; rfl) | go_simp
                    simp only [List.setIfInBounds_toArray, List.set_cons_zero, List.set_cons_succ]
                    refine lx_rd 12 (.string (ba t)) (by kernel_rfl) (fun _ _ d _ _ h => by cases d <;> exact h) (by kernel_rfl) HS0 rfl rfl rfl (fun w' hS => ?hA12) ?_
                    case hA12 => have q0 := hS.2.2.1; first | (go_simp; rfl) | go_simp
                    simp only [List.setIfInBounds_toArray, List.set_cons_zero, List.set_cons_succ]
                    refine lx_one 4 (by kernel_rfl) (stepT_call 39 ?ac rfl rfl rfl ?rc ?_)
                    case rc => first | (go_simp; rfl) | go_simp
                    refine (qwrite_any ⟨al, i, o, kk, vv⟩ Y (by have := (Hrn.out rfl).2.2; dsimp only at this ⊢; omega)).mono ?_
                    rintro e Y2 ⟨rfl, hb2⟩
                    have HS2 : ShAt Y2 B (shc li ru us (.slice (some ⟨b, off, none⟩) n2 c) (.slice (some ⟨tb, toff, none⟩) n2 c2)) ∧ Y2.cell? ⟨tb, toff + j, none⟩ = some (.slice (some ⟨yb, yoff, none⟩) k1 l1) ∧ Y2.cell? ⟨yb, yoff + k, none⟩ = some (.string (ba t)) ∧ RuAt Y2 g ⟨al, i, o, kk, vv⟩ :=
                      ⟨box_below HS0.1 hb2, (hb2.cell (World.block_lt_of_cell? _ _ HS0.2.1)).trans HS0.2.1, (hb2.cell (World.block_lt_of_cell? _ _ HS0.2.2.1)).trans HS0.2.2.1, box_below HS0.2.2.2 hb2⟩
                    refine ⟨_, rfl, fun _ => HS2, ?_⟩
                    simp only [lxa, lxb, lxc]
                    have HB7 : Hid (Below wc.heap.size wc Y2) := HB6.out.trans (hb2.mono HB6.out.size)
                    have e1 : ((ba (writeQ ⟨al, i, o, kk, vv⟩)).toList == (ba t).toList) = (writeQ ⟨al, i, o, kk, vv⟩ == t) := by rw [ba_eq, Lib.toList_data, ba_list]
                    obtain ⟨eq, Heq⟩ : ∃ eq, Hid ((writeQ ⟨al, i, o, kk, vv⟩ == t) = eq) := ⟨_, rfl⟩
                    rw [Heq.out] at e1
                    clear HS0 hb2 HB6
                    cases eq with
                    | true =>
                      refine lx_rd 13 (.bool false) (by kernel_rfl) (fun _ _ d _ _ h => by cases d <;> exact h) (by kernel_rfl) HS2 rfl rfl rfl (fun w' hS => ?hB13) ?_
                      case hB13 => first | (go_simp; rfl) | go_simp
                      simp only [List.setIfInBounds_toArray, List.set_cons_zero, List.set_cons_succ]
                      refine lx_rd 14 (.bool false) (by kernel_rfl) (fun _ _ d _ _ h => by cases d <;> exact h) (by kernel_rfl) HS2 rfl rfl rfl (fun w' hS => ?hB14) ?_
                      case hB14 => first | (go_simp; rfl) | go_simp
                      simp only [List.setIfInBounds_toArray, List.set_cons_zero, List.set_cons_succ]
                      refine lx_nil (by kernel_rfl) ?_
                      have HG2 : Hid (∀ u ∈ ts.take (k + 1), (parseR u).2 = 0 ∧ writeQ (parseR u).1 = u) := fun u hu => by
                        rw [HTk.out] at hu
                        rcases List.mem_append.1 hu with q | q
                        · exact HG.out u q
                        · have : u = t := by simpa using q
                          subst this
                          rw [Hpr.out]
                          exact ⟨rfl, beq_iff_eq.1 Heq.out⟩
                      clear HS2 e1
                      go_wp2
                      go_roundw
                      case rel => exact ⟨k + 1, by go_num, by omega, HG2, HB7⟩
                      case measure => simp [intOf]; omega
                    | false =>
                      refine lx_rd 13 (.bool true) (by kernel_rfl) (fun _ _ d _ _ h => by cases d <;> exact h) (by kernel_rfl) HS2 rfl rfl rfl (fun w' hS => ?hC13) ?_
                      case hC13 => first | (go_simp; rfl) | go_simp
                      simp only [List.setIfInBounds_toArray, List.set_cons_zero, List.set_cons_succ]
                      refine lx_rd 14 (.bool true) (by kernel_rfl) (fun _ _ d _ _ h => by cases d <;> exact h) (by kernel_rfl) HS2 rfl rfl rfl (fun w' hS => ?hC14) ?_
                      case hC14 => first | (go_simp; rfl) | go_simp
                      simp only [List.setIfInBounds_toArray, List.set_cons_zero, List.set_cons_succ]
                      refine lx_nil (by kernel_rfl) ?_
                      have HF3 : Hid (LR = none) := by
                        have h1 := HF2.out
                        rw [if_neg] at h1
                        · show LR = none
                          rw [hLR.out, ← h1]; rfl
                        · rintro ⟨_, g2⟩
                          obtain ⟨_, _, x3, _⟩ := step_yes g2
                          have h2 := (x3 t htm.out).2
                          rw [Hpr.out] at h2
                          have h3 := Heq.out
                          rw [beq_eq_false_iff_ne] at h3
                          exact h3 h2
                      clear HS2 e1
                      go_wp2
                      go_ret2
                      exact ⟨by rw [HF3.out]; rfl, by rw [HB.out]; exact (S2.out.1.below HB7.out).bl⟩
                  · have hE : ((en : Int) != 0) = true := by simp; omega
                    have HF3 : Hid (LR = none) := by
                      have h1 := HF2.out
                      rw [if_neg] at h1
                      · show LR = none
                        rw [hLR.out, ← h1]; rfl
                      · rintro ⟨_, g2⟩
                        obtain ⟨_, _, x3, _⟩ := step_yes g2
                        have h2 := (x3 t htm.out).1
                        rw [Hpr.out] at h2
                        exact hen h2
                    clear hen
                    refine lx_rd 0 (.int .i64 en) (by kernel_rfl) (fun _ _ d _ _ h => by cases d <;> exact h) (by kernel_rfl) HS0 rfl rfl rfl (fun w' hS => ?hD0) ?_
                    case hD0 => first | (go_simp; rfl) | go_simp
                    simp only [List.setIfInBounds_toArray, List.set_cons_zero, List.set_cons_succ]
                    refine lx_rd 1 (.bool true) (by kernel_rfl) (fun _ _ d _ _ h => by cases d <;> exact h) (by kernel_rfl) HS0 rfl rfl rfl (fun w' hS => ?hD1) ?_
                    case hD1 => first | (go_simp; rfl) | go_simp
                    simp only [List.setIfInBounds_toArray, List.set_cons_zero, List.set_cons_succ]
                    refine lx_rd 2 (.bool true) (by kernel_rfl) (fun _ _ d _ _ h => by cases d <;> exact h) (by kernel_rfl) HS0 rfl rfl rfl (fun w' hS => ?hD2) ?_
                    case hD2 => first | (go_simp; rfl) | go_simp
                    simp only [List.setIfInBounds_toArray, List.set_cons_zero, List.set_cons_succ]
                    clear hE
                    refine lx_skip 3 (by kernel_rfl) (fun _ _ d _ _ h => by cases d <;> exact h) (by kernel_rfl) HS0 rfl rfl rfl ?_
                    simp only [List.setIfInBounds_toArray, List.set_cons_zero, List.set_cons_succ]
                    refine lx_skip 4 (by kernel_rfl) (fun _ _ d _ _ h => by cases d <;> exact h) (by kernel_rfl) HS0 rfl rfl rfl ?_
                    simp only [List.setIfInBounds_toArray, List.set_cons_zero, List.set_cons_succ]
                    refine lx_skip 5 (by kernel_rfl) (fun _ _ d _ _ h => by cases d <;> exact h) (by kernel_rfl) HS0 rfl rfl rfl ?_
                    simp only [List.setIfInBounds_toArray, List.set_cons_zero, List.set_cons_succ]
                    refine lx_skip 6 (by kernel_rfl) (fun _ _ d _ _ h => by cases d <;> exact h) (by kernel_rfl) HS0 rfl rfl rfl ?_
                    simp only [List.setIfInBounds_toArray, List.set_cons_zero, List.set_cons_succ]
                    refine lx_skip 7 (by kernel_rfl) (fun _ _ d _ _ h => by cases d <;> exact h) (by kernel_rfl) HS0 rfl rfl rfl ?_
                    simp only [List.setIfInBounds_toArray, List.set_cons_zero, List.set_cons_succ]
                    refine lx_skip 8 (by kernel_rfl) (fun _ _ d _ _ h => by cases d <;> exact h) (by kernel_rfl) HS0 rfl rfl rfl ?_
                    simp only [List.setIfInBounds_toArray, List.set_cons_zero, List.set_cons_succ]
                    refine lx_skip 9 (by kernel_rfl) (fun _ _ d _ _ h => by cases d <;> exact h) (by kernel_rfl) HS0 rfl rfl rfl ?_
                    simp only [List.setIfInBounds_toArray, List.set_cons_zero, List.set_cons_succ]
                    refine lx_skip 10 (by kernel_rfl) (fun _ _ d _ _ h => by cases d <;> exact h) (by kernel_rfl) HS0 rfl rfl rfl ?_
                    simp only [List.setIfInBounds_toArray, List.set_cons_zero, List.set_cons_succ]
                    refine lx_skip 11 (by kernel_rfl) (fun _ _ d _ _ h => by cases d <;> exact h) (by kernel_rfl) HS0 rfl rfl rfl ?_
                    simp only [List.setIfInBounds_toArray, List.set_cons_zero, List.set_cons_succ]
                    refine lx_skip 12 (by kernel_rfl) (fun _ _ d _ _ h => by cases d <;> exact h) (by kernel_rfl) HS0 rfl rfl rfl ?_
                    simp only [List.setIfInBounds_toArray, List.set_cons_zero, List.set_cons_succ]
                    refine lx_skip 13 (by kernel_rfl) (fun _ _ d _ _ h => by cases d <;> exact h) (by kernel_rfl) HS0 rfl rfl rfl ?_
                    simp only [List.setIfInBounds_toArray, List.set_cons_zero, List.set_cons_succ]
                    refine lx_rd 14 (.bool true) (by kernel_rfl) (fun _ _ d _ _ h => by cases d <;> exact h) (by kernel_rfl) HS0 rfl rfl rfl (fun w' hS => ?hF14) ?_
                    case hF14 => first | (go_simp; rfl) | go_simp
                    simp only [List.setIfInBounds_toArray, List.set_cons_zero, List.set_cons_succ]
                    refine lx_nil (by kernel_rfl) ?_
                    clear HS0
                    go_wp2
                    go_ret2
                    exact ⟨by rw [HF3.out]; rfl, by rw [HB.out]; exact (S2.out.1.below HB6.out).bl⟩
                · have hck : ¬ (k : Int) < (k1 : Int) := by omega
                  obtain rfl : k = k1 := by omega
                  have HGA : Hid (∀ t ∈ ts, (parseR t).2 = 0 ∧ writeQ (parseR t).1 = t) := by
                    have := HG.out
                    rw [List.take_of_length_le (by rw [Hkl.out]; exact Nat.le_refl _)] at this
                    exact this
                  go_upto_region 15 with fail
                  have HB3d : Hid (Below wc.heap.size wc wr.drew) := HB3.out.drew
                  have HS0 : ShAt wr.drew B (shc li ru us (.slice (some ⟨b, off, none⟩) n2 c) (.slice (some ⟨tb, toff, none⟩) n2 c2)) ∧ wr.drew.cell? ⟨b, off + j, none⟩ = some (.string (ba s)) ∧ wr.drew.cell? ⟨tb, toff + j, none⟩ = some (.slice y1 k l1) :=
                    ⟨box_below S2.out.2.1 HB3d.out, (HB3d.out.cell (World.block_lt_of_cell? _ _ S2.out.2.2.2.2)).trans S2.out.2.2.2.2, (HB3d.out.cell (World.block_lt_of_cell? _ _ S2.out.2.2.2.1)).trans S2.out.2.2.2.1⟩
                  have D0 : Hid (Sq B w wr.drew (B + 1) P (fun i => i = B) ∧ TRd wr.drew y1 k l1 ts) := ⟨S2.out.1.below HB3d.out, S2.out.2.2.1.below HB3d.out⟩
                  clear hq4 hqy HB3 S2 hck HB3d
                  refine wp_region_lx (fun w' => ShAt w' B (shc li ru us (.slice (some ⟨b, off, none⟩) n2 c) (.slice (some ⟨tb, toff, none⟩) n2 c2)) ∧ w'.cell? ⟨b, off + j, none⟩ = some (.string (ba s)) ∧ w'.cell? ⟨tb, toff + j, none⟩ = some (.slice y1 k l1)) [] 13 (by kernel_rfl) (by kernel_rfl) ?_
                  generalize World.drew _ = Y at D0 HS0 ⊢
                  refine lx_rd 0 (.pointer (some ⟨B + 1, 0, none⟩)) (by kernel_rfl) (fun _ _ d _ _ h => by cases d <;> exact h) (by kernel_rfl) HS0 rfl rfl rfl (fun w' hS => ?hG0) ?_
                  case hG0 => first | (go_simp; rfl) | go_simp
                  simp only [List.setIfInBounds_toArray, List.set_cons_zero, List.set_cons_succ]
                  refine lx_rd 1 (.pointer (some ⟨B, 3, none⟩)) (by kernel_rfl) (fun _ _ d _ _ h => by cases d <;> exact h) (by kernel_rfl) HS0 rfl rfl rfl (fun w' hS => ?hG1) ?_
                  case hG1 => first | (go_simp; rfl) | go_simp
                  simp only [List.setIfInBounds_toArray, List.set_cons_zero, List.set_cons_succ]
                  refine lx_rd 2 (.slice (some ⟨b, off, none⟩) n2 c) (by kernel_rfl) (fun _ _ d _ _ h => by cases d <;> exact h) (by kernel_rfl) HS0 rfl rfl rfl (fun w' hS => ?hG2) ?_
                  case hG2 => have q0 := sh3 hS.1; first | (go_simp; rfl) | go_simp
                  simp only [List.setIfInBounds_toArray, List.set_cons_zero, List.set_cons_succ]
                  refine lx_rd 3 (.int .i64 (j : Int)) (by kernel_rfl) (fun _ _ d _ _ h => by cases d <;> exact h) (by kernel_rfl) HS0 rfl rfl rfl (fun w' hS => ?hG3) ?_
                  case hG3 => first | (go_simp; rfl) | go_simp
                  simp only [List.setIfInBounds_toArray, List.set_cons_zero, List.set_cons_succ]
                  refine lx_rd 4 (.pointer (some ⟨b, off + j, none⟩)) (by kernel_rfl) (fun _ _ d _ _ h => by cases d <;> exact h) (by kernel_rfl) HS0 rfl rfl rfl (fun w' hS => ?hG4) ?_
                  case hG4 => first | (go_simp; rfl) | go_simp
                  simp only [List.setIfInBounds_toArray, List.set_cons_zero, List.set_cons_succ]
                  refine lx_rd 5 (.string (ba s)) (by kernel_rfl) (fun _ _ d _ _ h => by cases d <;> exact h) (by kernel_rfl) HS0 rfl rfl rfl (fun w' hS => ?hG5) ?_
                  case hG5 => have q0 := hS.2.1; first | (go_simp; rfl) | go_simp
                  simp only [List.setIfInBounds_toArray, List.set_cons_zero, List.set_cons_succ]
                  refine lx_rd 6 (.pointer (some ⟨B, 4, none⟩)) (by kernel_rfl) (fun _ _ d _ _ h => by cases d <;> exact h) (by kernel_rfl) HS0 rfl rfl rfl (fun w' hS => ?hG6) ?_
                  case hG6 => first | (go_simp; rfl) | go_simp
                  simp only [List.setIfInBounds_toArray, List.set_cons_zero, List.set_cons_succ]
                  refine lx_rd 7 (.slice (some ⟨tb, toff, none⟩) n2 c2) (by kernel_rfl) (fun _ _ d _ _ h => by cases d <;> exact h) (by kernel_rfl) HS0 rfl rfl rfl (fun w' hS => ?hG7) ?_
                  case hG7 => have q0 := sh4 hS.1; first | (go_simp; rfl) | go_simp
                  simp only [List.setIfInBounds_toArray, List.set_cons_zero, List.set_cons_succ]
                  refine lx_rd 8 (.int .i64 (j : Int)) (by kernel_rfl) (fun _ _ d _ _ h => by cases d <;> exact h) (by kernel_rfl) HS0 rfl rfl rfl (fun w' hS => ?hG8) ?_
                  case hG8 => first | (go_simp; rfl) | go_simp
                  simp only [List.setIfInBounds_toArray, List.set_cons_zero, List.set_cons_succ]
                  refine lx_rd 9 (.pointer (some ⟨tb, toff + j, none⟩)) (by kernel_rfl) (fun _ _ d _ _ h => by cases d <;> exact h) (by kernel_rfl) HS0 rfl rfl rfl (fun w' hS => ?hG9) ?_
                  case hG9 => first | (go_simp; rfl) | go_simp
                  simp only [List.setIfInBounds_toArray, List.set_cons_zero, List.set_cons_succ]
                  refine lx_rd 10 (.slice y1 k l1) (by kernel_rfl) (fun _ _ d _ _ h => by cases d <;> exact h) (by kernel_rfl) HS0 rfl rfl rfl (fun w' hS => ?hG10) ?_
                  case hG10 => have q0 := hS.2.2; first | (go_simp; rfl) | go_simp
                  simp only [List.setIfInBounds_toArray, List.set_cons_zero, List.set_cons_succ]
                  refine lx_one 11 (by kernel_rfl) (stepT_call 19 ?ad rfl rfl rfl ?rd ?_)
                  case rd => first | (go_simp; rfl) | go_simp
                  refine (sq_set D0.out.1 s y1 k l1 ts hsl.out D0.out.2 (by have := htl.out.1; have := Hkl.out; omega) htl.out.2 (by have := HN.out.1.kn; have := hj2.out; omega)).mono ?_
                  rintro e Y1 ⟨rfl, D1⟩
                  have HS1 : ShAt Y1 B (shc li ru us (.slice (some ⟨b, off, none⟩) n2 c) (.slice (some ⟨tb, toff, none⟩) n2 c2)) ∧ Y1.cell? ⟨b, off + j, none⟩ = some (.string (ba s)) ∧ Y1.cell? ⟨tb, toff + j, none⟩ = some (.slice y1 k l1) :=
                    ⟨box_keep HS0.1 D1.out.2 (fun e => e.2 rfl), D1.out.2.cell HS0.2.1 (fun e => by have h1 : B ≤ b := e.1; have := hbB.out.1; omega), D1.out.2.cell HS0.2.2 (fun e => by have h1 : B ≤ tb := e.1; have := hbB.out.2; omega)⟩
                  refine ⟨_, rfl, fun _ => HS1, ?_⟩
                  simp only [lxa, lxb, lxc]
                  have HN1 : Hid (Nice (setR P s ts).2 (j + 1) ∧ (setR P s ts).2.ru = ru ∧ (setR P s ts).2.us = []) := ⟨HN.out.1.set s ts hsl.out htl.out.1, by rw [setR_ru]; exact HN.out.2.1, by rw [setR_us]; exact HN.out.2.2⟩
                  have hstB : Hid (stepB P s ts = ((setR P s ts).1 == 0)) := step_is HGA.out
                  have HSY : Hid (ShAt Y1 B (shc li ru us (.slice (some ⟨b, off, none⟩) n2 c) (.slice (some ⟨tb, toff, none⟩) n2 c2))) := box_keep HS0.1 D1.out.2 (fun e => e.2 rfl)
                  generalize setR P s ts = D at D1 HN1 hstB HF2 ⊢
                  obtain ⟨en, P1⟩ := D
                  dsimp only at D1 HN1 hstB HF2 ⊢
                  clear HS0
                  by_cases hen : en = 0
                  · subst hen
                    refine lx_rd 12 (.bool false) (by kernel_rfl) (fun _ _ d _ _ h => by cases d <;> exact h) (by kernel_rfl) HS1 rfl rfl rfl (fun w' hS => ?hH12) ?_
                    case hH12 => first | (go_simp; rfl) | go_simp
                    simp only [List.setIfInBounds_toArray, List.set_cons_zero, List.set_cons_succ]
                    refine lx_nil (by kernel_rfl) ?_
                    have HF3 : Hid (fillQ (pvO ns (j + 1)) P1 (ns.drop (j + 1)) (tss.drop (j + 1)) = R) := by
                      have h1 := HF2.out
                      rw [if_pos ⟨HG0.out.1, hstB.out⟩] at h1
                      exact h1
                    clear HS1
                    go_wp2
                    go_roundw
                    case rel => exact ⟨j + 1, P1, by go_num, by omega, HF3, HN1, D1.out.1, HSY.out⟩
                    case measure => simp [intOf]; omega
                  · have hE : ((en : Int) != 0) = true := by simp; omega
                    have HF3 : Hid (LR = none) := by
                      have h1 := HF2.out
                      rw [if_neg] at h1
                      · show LR = none
                        rw [hLR.out, ← h1]; rfl
                      · rintro ⟨_, g2⟩
                        rw [hstB.out] at g2
                        exact hen (beq_iff_eq.1 g2)
                    clear hen
                    refine lx_rd 12 (.bool true) (by kernel_rfl) (fun _ _ d _ _ h => by cases d <;> exact h) (by kernel_rfl) HS1 rfl rfl rfl (fun w' hS => ?hI12) ?_
                    case hI12 => first | (go_simp; rfl) | go_simp
                    simp only [List.setIfInBounds_toArray, List.set_cons_zero, List.set_cons_succ]
                    clear hE
                    refine lx_nil (by kernel_rfl) ?_
                    clear HS1
                    go_wp2
                    go_ret2
                    exact ⟨by rw [HF3.out]; rfl, by rw [HB.out]; exact D1.out.1.bl⟩
        · have hcl : ¬ (j : Int) < (n2 : Int) := by omega
          obtain rfl : j = n2 := by omega
          have hRP : R = some P := by
            have := HF.out
            rw [List.drop_eq_nil_of_le (by rw [Hn.out.1]; exact Nat.le_refl _)] at this
            rw [← this]; rfl
          have hfin : Hid (LR = if (defaultR P us).1 = 0 then some (defaultR P us).2 else none) := by
            show LR = _
            rw [hLR.out, hRP]; rfl
          have u2 := sh2 HS.out.2
          have e1 : (ba us).toList.isEmpty = us.isEmpty := by rw [Lib.toList_data, ba_list]
          clear hRP HF
          cases hue : us.isEmpty with
          | true =>
            have hus : us = [] := List.isEmpty_iff.1 hue
            rw [hue] at e1
            have hfin1 : Hid (LR = some P) := by
              show LR = some P
              have hd : defaultR P [] = (0, P) := by
                unfold defaultR
                rw [if_neg (by simp)]
                have hPu := HN.out.2.2
                obtain ⟨x1, x2, x3, x4, x5⟩ := P
                dsimp only at hPu ⊢
                rw [hPu]
              rw [hfin.out, hus, hd, if_pos rfl]
            clear hfin hue hus
            go_wp2
            go_ret2
            obtain ⟨F9, hL9, hF9⟩ := HS.out.1.ex
            refine ⟨?_, by rw [HB.out]; exact HS.out.1.bl⟩
            rw [hfin1.out]
            exact ⟨B + 1, F9, rfl, hL9, fun i hi => by rw [HB.out]; exact (hF9 i hi).1⟩
          | false =>
            rw [hue] at e1
            have cD := sq_default HS.out.1 us
            generalize defaultR P us = D at cD hfin
            obtain ⟨en, P1⟩ := D
            dsimp only at cD hfin
            clear hue
            by_cases hen : en = 0
            · subst hen
              have hfin1 : Hid (LR = some P1) := by show LR = some P1; rw [hfin.out, if_pos rfl]
              clear hfin
              go_wp2_with (go_at_call 27; refine cD.mono ?_; clear cD; rintro e w9 ⟨rfl, D9⟩)
              go_ret2
              obtain ⟨F9, hL9, hF9⟩ := D9.out.1.ex
              refine ⟨?_, by rw [HB.out]; exact D9.out.1.bl⟩
              rw [hfin1.out]
              exact ⟨B + 1, F9, rfl, hL9, fun i hi => by rw [HB.out]; exact (hF9 i hi).1⟩
            · have hE : ((en : Int) != 0) = true := by simp; omega
              have hfin2 : Hid (LR = none) := by show LR = none; rw [hfin.out, if_neg hen]
              clear hfin hen
              go_wp2_with (go_at_call 27; refine cD.mono ?_; clear cD; rintro e w9 ⟨rfl, D9⟩)
              go_ret2
              exact ⟨by rw [hfin2.out]; rfl, by rw [HB.out]; exact D9.out.1.bl⟩
    · have f1 : ((n2 : Int) != (n : Int)) = true := by simp; omega
      have hno : loadR li ru us ns tss = none := load_no (fun h => hnn (by rw [← Hn.out.1, ← Hn.out.2]; exact h.2.1))
      have hLR : none = LR := hno.symm.trans HLR.out
      clear hno
      go_wp2
      go_ret2
      exact ⟨by rw [← hLR]; rfl, by rw [HB.out]; exact H1.out.1.bl⟩
theorem qLoad_any (S : Value) (w : World) (li ru : Int) (us : By) (ns : List By) (tss : List (List By)) (h : ShR w S li ru us ns tss) (hS : Small us ns tss) :
    Calls Tryz.prog 15 #[S] w fun e w' => LoadedQ w (loadR li ru us ns tss) e w' ∧ Below w.heap.size w w' := by
  obtain ⟨a, n, c, a2, n2, c2, rfl, hN, hT⟩ := h
  cases hb : (bnd li && bnd ru) with
  | false =>
    have hno : loadR li ru us ns tss = none := load_no (fun h => by rw [hb] at h; cases h.1)
    rw [hno]
    exact qLoad_bad a n c a2 n2 c2 w li ru us hb
  | true =>
    simp only [Bool.and_eq_true] at hb
    exact qLoad_ok a n c a2 n2 c2 w li ru us ns tss hN hT hS hb.1 hb.2
end Go.Proofs.YtiplalbicibahaaGreatDoor

/- PrivacyExact: whatever the bounds and the calls. -/
set_option maxRecDepth 100000
namespace Go.Proofs.YtiplalbicibahaaGreatDoor
open Go.RowKit Go.Joins Go.Shelf

theorem infoOp17 : (Tryz.prog.info? 34).map (·.size) = some 7 := by kernel_rfl
theorem range_below {w w' : World} {b o : Nat} {xs : List Value} (h : w.rangeAt b o xs) (hb : Below w.heap.size w w') : w'.rangeAt b o xs := fun i u hu =>
  (hb.cell (World.block_lt_of_cell? w _ (h i u hu))).trans (h i u hu)
theorem ORd.below {w w' : World} {a : Option Addr} {n c : Nat} (h : ORd w a n c) (hb : Below w.heap.size w w') : ORd w' a n c :=
  ⟨h.cap, h.most, fun h0 => by
    obtain ⟨b, off, e, hj⟩ := h.flat h0
    exact ⟨b, off, e, fun j hlt => by
      obtain ⟨o, ts, gs, hr, ho⟩ := hj j hlt
      exact ⟨o, ts, gs, range_below hr hb, ho.below hb⟩⟩⟩
set_option maxHeartbeats 1600000 in
theorem exact_bad (l r : Int) (v : Value) (w : World) (hT : Lib.Utf8Tabs 0 1 w) (hb : (bnd l && bnd r) = false) :
    Calls Tryz.prog 3 #[.int .i64 l, .int .i64 r, v] w fun e w' => e = .returned (.bool true) ∧ Below w.heap.size w w' := by
  have cN := new_bad l r w hb
  have cQ := qnew_bad l r w hb
  have cW := wakes_any w hT
  clear hT hb
  go_enter Tryz.func3, Tryz.ntmps3
  go_wp2_with (first
    | (go_at_call 6; refine cN.mono ?_; clear cN; rintro e w1 ⟨rfl, hw1⟩; replace hw1 := hw1.symm; subst hw1)
    | (go_at_call 7; refine cQ.mono ?_; clear cQ; rintro e w1 ⟨rfl, hw1⟩; replace hw1 := hw1.symm; subst hw1)
    | (go_at_call 8; refine cW.mono ?_; clear cW; rintro e w1 ⟨rfl, hb1⟩))
  go_ret
  exact ⟨rfl, hb1⟩
set_option maxHeartbeats 3200000 in
theorem exact_ok (l r : Int) (a : Option Addr) (n c : Nat) (w : World) (hO : ORd w a n c) (hT : Lib.Utf8Tabs 0 1 w) (hl : bnd l = true) (hr : bnd r = true) :
    Calls Tryz.prog 3 #[.int .i64 l, .int .i64 r, .slice a n c] w fun e w' => e = .returned (.bool true) ∧ Below w.heap.size w w' := by
  have cN := new_ok l r w hl hr
  have cQ : Hid (∀ W, Calls Tryz.prog 7 #[.int .i64 l, .int .i64 r] W fun e w' => e = .returned (.tuple #[.pointer (some ⟨W.heap.size, 0, none⟩), .bool true]) ∧ QAt w' (fun i => i = W.heap.size) W.heap.size (pl0 l r) ∧ Below W.heap.size W w') := fun W => qnew_ok l r W hl hr
  have hcap := hO.cap
  have hmost := hO.most
  unfold maxLen at hmost
  have HO : Hid (ORd w a n c ∧ Lib.Utf8Tabs 0 1 w) := ⟨hO, hT⟩
  obtain ⟨B, HB⟩ : ∃ B, Hid (w.heap.size = B) := ⟨_, rfl⟩
  obtain ⟨p, Hp⟩ : ∃ p, Hid (w.heap.size + 1 = p) := ⟨_, rfl⟩
  rw [Hp.out] at cN
  clear hO hT hl hr
  go_enter Tryz.func3, Tryz.ntmps3
  go_upto_region 2 with (go_at_call 6; refine cN.mono ?_; clear cN; rintro e w1 ⟨rfl, h1, hb1⟩)
  obtain ⟨q, Hq⟩ : ∃ q, Hid (w1.heap.size = q) := ⟨_, rfl⟩
  have cQ1 := cQ.out w1
  clear cQ
  rw [Hq.out] at cQ1
  go_upto_region 5 with (go_at_call 7; refine cQ1.mono ?_; clear cQ1; rintro e w2 ⟨rfl, h2, hb2⟩)
  have HT : Hid (Tw B w w2 p q (pl0 l r) (pl0 l r) (fun _ => False)) := by
    have hq := Hq.out
    have hp := Hp.out
    have h0 := HB.out
    have hz1 := hb1.size
    rw [← hq] at hb2
    have hz2 := hb2.size
    refine ⟨⟨_, _, h1.below hb2, h2, fun i hi => ⟨by omega, fun z => z⟩, fun i hi => ⟨by omega, fun z => z⟩, fun i hi hj => ?_⟩, by rw [← h0]; exact hb1.trans (hb2.mono hz1), by omega, fun i z => z.elim⟩
    have := h1.lt i hi
    omega
  clear h1 h2 hb1 hb2
  have cW := wakes_any w2 (tabs_bel HO.out.2 (by rw [HB.out]; exact HT.out.bl))
  go_upto_region 8 with (go_at_call 8; refine cW.mono ?_; clear cW; rintro e w3 ⟨rfl, hb3⟩)
  have HT3 : Hid (Tw B w w3 p q (pl0 l r) (pl0 l r) (fun _ => False)) := HT.out.below hb3
  clear HT hb3
  go_loopw [11] (fun s11 wr => ∃ (k : Nat) (P : Pl), s11 = .int .i64 k ∧ k ≤ n ∧ k ≤ 120 ∧ Hid (Nice P k) ∧ Hid (Tw B w wr p q P P (fun _ => False))) (fun s11 _ => n - (intOf s11).toNat)
  case atStart => exact ⟨0, pl0 l r, rfl, by omega, by omega, Nice.zero l r, HT3⟩
  case round =>
    clear HT3
    obtain ⟨k, P, rfl, hk, hk2, HN, HT⟩ := hrel
    by_cases hlt : k < n
    · have hcl : (k : Int) < (n : Int) := by omega
      by_cases hlt2 : k < 120
      · have hcl2 : (k : Int) < 120 := by omega
        obtain ⟨b, off, rfl, hce⟩ := HO.out.1.flat (by omega)
        obtain ⟨o, ts, gs, hrg, hor⟩ := hce k hlt
        have hrw : Hid (wr.rangeAt b (off + k * 7) (oc o).toList) := range_below hrg (by rw [HB.out]; exact HT.out.bl)
        have cP := plays_any o ts gs B w wr p q P k (fun _ => False) HB.out hor HO.out.2 HT.out HN.out (by omega)
        clear hce hrg hor
        unfold oc at cP hrw
        go_wp2_with (first
          | (refine wpList_load_mid rfl 34 (.tmp 59) rfl b (off + k * 7) rfl _ _ hrw.out Tryz.underlying34 rfl (by rw [infoOp17]; rfl) ?_; dsimp only [List.toList_toArray])
          | (go_at_call 9; refine cP.mono ?_; clear cP; rintro e w5 ⟨rfl, hp5⟩; obtain ⟨P5, T5, N5, _, _⟩ := hp5; have H5 : Hid (Tw B w w5 p q P5 P5 (fun _ => False) ∧ Nice P5 (k + 1)) := ⟨T5, N5⟩; clear T5 N5; have cS := tw_shelf H5.out.1 H5.out.2 (by omega))
          | (go_at_call 11; refine cS.mono ?_; clear cS; rintro e w6 ⟨S6, rfl, hs6, hb6⟩; have H6 : Hid (Tw B w w6 p q P5 P5 (fun _ => False) ∧ ShR w6 S6 P5.li P5.ru P5.us (sortK P5.ks) ((sortK P5.ks).map (textsK P5))) := ⟨H5.out.1.below hb6, hs6.read⟩; clear hs6 hb6; have cS2 := tw_qshelf H6.out.1 H5.out.2 (by omega))
          | (go_at_call 12; refine cS2.mono ?_; clear cS2; rintro e w7 ⟨S7, rfl, hs7, hb7⟩; have H7 : Hid (Tw B w w7 p q P5 P5 (fun _ => False)) := H6.out.1.below hb7; have cE := sameShelf_any w7 S6 S7 P5.li P5.ru P5.us (sortK P5.ks) ((sortK P5.ks).map (textsK P5)) (H6.out.2.below hb7) hs7.read; clear hs7 hb7)
          | (go_at_call 10; refine cE.mono ?_; clear cE; rintro e w8 ⟨rfl, hb8⟩; have H8 : Hid (Tw B w w8 p q P5 P5 (fun _ => False)) := H7.out.below hb8; clear hb8))
        exact ⟨⟨k + 1, P5, by go_num, by omega, by omega, H5.out.2, H8⟩, by simp [intOf]; omega⟩
      · have hcl2 : ¬ (k : Int) < 120 := by omega
        have HF : Hid (Below w.heap.size w wr) := by show Below _ _ _; rw [HB.out]; exact HT.out.bl
        clear HT HN
        go_wp2
        go_ret
        exact ⟨rfl, HF.out⟩
    · have hcl : ¬ (k : Int) < (n : Int) := by omega
      have HF : Hid (Below w.heap.size w wr) := by show Below _ _ _; rw [HB.out]; exact HT.out.bl
      clear HT HN
      go_wp2
      go_ret
      exact ⟨rfl, HF.out⟩
theorem privacyExact_any (l r : Int) (a : Option Addr) (n c : Nat) (w : World) (hO : ORd w a n c) (hT : Lib.Utf8Tabs 0 1 w) :
    Calls Tryz.prog 3 #[.int .i64 l, .int .i64 r, .slice a n c] w fun e w' => e = .returned (.bool true) ∧ Below w.heap.size w w' := by
  cases hb : (bnd l && bnd r) with
  | false => exact exact_bad l r _ w hT hb
  | true =>
    simp only [Bool.and_eq_true] at hb
    exact exact_ok l r a n c w hO hT hb.1 hb.2
end Go.Proofs.YtiplalbicibahaaGreatDoor

/- PrivacyLoad: any shelf holds lists, or none; those that were kept go on. -/
set_option maxRecDepth 100000
namespace Go.Proofs.YtiplalbicibahaaGreatDoor
open Go.RowKit Go.Joins Go.Shelf

theorem fill_nice : ∀ (ns : List By) (A A' : Pl) (tss : List (List By)) (n : Nat), fillR A ns tss = some A' → Nice A n → Kept A → (∀ s ∈ ns, s.length ≤ 80) → (∀ ts ∈ tss, ts.length ≤ 20) → Nice A' (n + ns.length) ∧ Kept A'
  | [], A, A', tss, n, h, h1, h2, _, _ => by
    have : A = A' := Option.some.inj h
    subst this
    exact ⟨h1, h2⟩
  | s :: ns, A, A', tss, n, h, h1, h2, h3, h4 => by
    rw [fillR] at h
    cases hst : stepB A s (tss.headD []) with
    | false => rw [hst, if_neg (by decide)] at h; cases h
    | true =>
      rw [hst, if_pos rfl] at h
      have hh : (tss.headD []).length ≤ 20 := by
        cases tss with
        | nil => exact Nat.zero_le _
        | cons t r => exact h4 t (List.mem_cons_self ..)
      have ih := fill_nice ns _ A' tss.tail (n + 1) h (h1.set s _ (h3 s (List.mem_cons_self ..)) hh) (h2.set s _) (fun u hu => h3 u (List.mem_cons_of_mem _ hu)) (fun u hu => h4 u (List.mem_of_mem_tail hu))
      rw [List.length_cons]
      exact ⟨ih.1.mono (by omega), ih.2⟩
theorem load_nice {li ru : Int} {us : By} {ns : List By} {tss : List (List By)} {P : Pl} (h : loadR li ru us ns tss = some P) (h3 : ∀ s ∈ ns, s.length ≤ 80) (h4 : ∀ ts ∈ tss, ts.length ≤ 20) : Nice P ns.length ∧ Kept P := by
  by_cases hc : (bnd li && bnd ru) = true ∧ tss.length = ns.length ∧ riseR ns = true
  · rw [load_yes hc] at h
    have hb := hc.1
    rw [Bool.and_eq_true] at hb
    cases hf : fillR (pl0 li ru) ns tss with
    | none => rw [hf] at h; cases h
    | some A =>
      rw [hf] at h
      obtain ⟨a1, a2⟩ := fill_nice ns _ A tss 0 hf (Nice.zero li ru) (Kept.zero hb.1 hb.2) h3 h4
      rw [Nat.zero_add] at a1
      replace h : (if (defaultR A us).1 = 0 then some (defaultR A us).2 else none) = some P := h
      by_cases hd : (defaultR A us).1 = 0
      · rw [if_pos hd] at h
        have hP := Option.some.inj h
        subst hP
        have hul : us.length ≤ 80 := by
          unfold defaultR at hd
          by_cases hx : (!(us.isEmpty) && !((A.m us).isSome)) = true
          · rw [if_pos hx] at hd; cases hd
          · cases hue : us.isEmpty with
            | true => rw [List.isEmpty_iff.1 hue]; exact Nat.zero_le _
            | false =>
              cases hm : (A.m us).isSome with
              | false => rw [hue, hm] at hx; exact absurd rfl hx
              | true => exact a1.nm us ((a2.mem us).1 hm)
        exact ⟨a1.usual us hul, a2.usual us⟩
      · rw [if_neg hd] at h; cases h
  · rw [load_no hc] at h; cases h
theorem cut_small (us : By) (ns : List By) (tss : List (List By)) (hu : us.length ≤ 9223372036854775807) : Small us (cutT ns 20 80) (cutTT tss) :=
  ⟨by have := cutT_len ns 20 80; omega, cutT_size ns 20 80, fun ts hts => by
    unfold cutTT at hts
    obtain ⟨x, _, rfl⟩ := List.mem_map.1 hts
    exact ⟨cutT_len x 20 120, fun t ht => by have := cutT_size x 20 120 t ht; omega⟩, hu⟩
theorem kept_small {P : Pl} {n : Nat} (h : Nice P n) (hn : n ≤ 200) : Small P.us (sortK P.ks) ((sortK P.ks).map (textsK P)) :=
  ⟨by rw [sortK_len]; have := h.kn; omega, fun s hs => h.nm s (sortK_mem.1 hs), fun ts hts => by
    obtain ⟨k, _, rfl⟩ := List.mem_map.1 hts
    refine ⟨by unfold textsK; rw [List.length_map]; exact h.rl k, fun t ht => ?_⟩
    unfold textsK at ht
    obtain ⟨r, hr, rfl⟩ := List.mem_map.1 ht
    have h1 := writtenR_len r
    have h2 := (h.rz k r hr).2.2
    omega, by have := h.us; omega⟩
theorem LsAt.as {w : World} {F : Nat → Prop} {q : Nat} {P' P : Pl} (h : LsAt w F q P') (h1 : P'.li = P.li) (h2 : P'.ru = P.ru) (h3 : P'.us = P.us) (h4 : ∀ s, P'.m s = P.m s) (hP : Kept P) : LsAt w F q P := by
  obtain ⟨mb, m, h⟩ := h
  have hl : P'.ks.length = P.ks.length := ((List.perm_ext_iff_of_nodup h.nd hP.nd).2 (fun s => by rw [← h.mem s, h4, hP.mem s])).length_eq
  refine ⟨mb, m, ⟨?_, by rw [← hl]; exact h.map, h.fq, h.fm, fun s => by rw [← h4]; exact h.tie s, h.lt, hP.nd, hP.mem⟩⟩
  have := h.blk
  unfold lc at this ⊢
  rw [h1, h2, h3] at this
  exact this
theorem Tw.made {B : Nat} {w0 w1 w2 : World} {p q : Nat} {P : Pl} {F G : Nat → Prop} (hL : LsAt w1 F p P) (hF : ∀ i, F i → B ≤ i) (hb : Below B w0 w1) (hB : B ≤ w1.heap.size) (hQ : QAt w2 G q P) (hG : ∀ i, G i → w1.heap.size ≤ i) (hb2 : Below w1.heap.size w1 w2) : Tw B w0 w2 p q P P (fun _ => False) :=
  ⟨⟨F, G, hL.below hb2, hQ, fun i hi => ⟨hF i hi, fun z => z⟩, fun i hi => ⟨by have := hG i hi; omega, fun z => z⟩, fun i hi hg => by have := hL.lt i hi; have := hG i hg; omega⟩, hb.trans (hb2.mono hB), by have := hb2.size; omega, fun i z => z.elim⟩
/-- Other lists at p, made since. -/
theorem Tw.remade {B : Nat} {w0 w w' : World} {p p' q : Nat} {P Q : Pl} {F : Nat → Prop} (h : Tw B w0 w p q P Q (fun _ => False)) (hb : Below w.heap.size w w') (hL : LsAt w' F p' P) (hF : ∀ i, F i → w.heap.size ≤ i) : Tw B w0 w' p' q P Q (fun _ => False) := by
  obtain ⟨F0, G, h1, h2, h3, h4, h5⟩ := h.ex
  exact ⟨⟨F, G, hL, h2.below hb, fun i hi => ⟨by have := hF i hi; have := h.sz; omega, fun z => z⟩, h4, fun i hi hg => by have := hF i hi; have := h2.lt i hg; omega⟩, h.bl.trans (hb.mono h.sz), Nat.le_trans h.sz hb.size, fun i z => z.elim⟩
set_option maxHeartbeats 3200000 in
theorem loadL_any (a1 : Option Addr) (n1 c1 : Nat) (x2 : Option Addr) (m2 d2 : Nat) (a : Option Addr) (n c : Nat) (w : World) (li ru : Int) (us : By) (ns : List By) (tss : List (List By)) (hN : TRd w a1 n1 c1 ns) (hT : TTd w x2 m2 d2 tss) (hu : us.length ≤ 9223372036854775807) (hO : ORd w a n c) (hU : Lib.Utf8Tabs 0 1 w) :
    Calls Tryz.prog 4 #[.agg (shc li ru us (.slice a1 n1 c1) (.slice x2 m2 d2)), .slice a n c] w fun e w' => e = .returned (.bool true) ∧ Below w.heap.size w w' := by
  obtain ⟨B, HB⟩ : ∃ B, Hid (w.heap.size = B) := ⟨_, rfl⟩
  have HA : Hid (TRd w a1 n1 c1 ns ∧ TTd w x2 m2 d2 tss ∧ ORd w a n c ∧ Lib.Utf8Tabs 0 1 w) := ⟨hN, hT, hO, hU⟩
  have HS : Hid (Small us (cutT ns 20 80) (cutTT tss) ∧ (cutT ns 20 80).length ≤ 20 ∧ ∀ ts ∈ cutTT tss, ts.length ≤ 20) := ⟨cut_small us ns tss hu, cutT_len ns 20 80, fun ts hts => ((cut_small us ns tss hu).t ts hts).1⟩
  have hcap := hO.cap
  have hmost := hO.most
  unfold maxLen at hmost
  obtain ⟨NS, HNS⟩ : ∃ NS, Hid (cutT ns 20 80 = NS) := ⟨_, rfl⟩
  obtain ⟨TS, HTS⟩ : ∃ TS, Hid (cutTT tss = TS) := ⟨_, rfl⟩
  rw [HNS.out, HTS.out] at HS
  obtain ⟨LR, HLR⟩ : ∃ LR, Hid (loadR li ru us NS TS = LR) := ⟨_, rfl⟩
  have HX : Hid (ShAt (w.alloc (.cells (shc li ru us (.slice a1 n1 c1) (.slice x2 m2 d2)) 38)) B (shc li ru us (.slice a1 n1 c1) (.slice x2 m2 d2)) ∧ Below B w (w.alloc (.cells (shc li ru us (.slice a1 n1 c1) (.slice x2 m2 d2)) 38)) ∧ (w.alloc (.cells (shc li ru us (.slice a1 n1 c1) (.slice x2 m2 d2)) 38)).heap.size = B + 1) := by
    rw [← HB.out]
    exact ⟨push_at _ _ rfl, below1 _ _, by simp⟩
  have hSR : Hid (∀ W, Below B w W → ShR W (.agg (shc li ru us (.slice a1 n1 c1) (.slice x2 m2 d2))) li ru us ns tss) := fun W hb => ⟨a1, n1, c1, x2, m2, d2, rfl, HA.out.1.below (by rw [HB.out]; exact hb), HA.out.2.1.below (by rw [HB.out]; exact hb)⟩
  have cT : Hid (∀ W, Below B w W → Calls Tryz.prog 14 #[.agg (shc li ru us (.slice a1 n1 c1) (.slice x2 m2 d2))] W fun e w' => ∃ S', e = .returned S' ∧ ShR w' S' li ru us NS TS ∧ Below W.heap.size W w') := fun W hb =>
    (twin_any _ W li ru us ns tss (hSR.out W hb)).mono (fun e w' hh => by
      rw [HNS.out, HTS.out] at hh
      obtain ⟨S', h1, h2, h3⟩ := hh
      exact ⟨S', h1, h2.read, h3⟩)
  have hTab : Hid (∀ W, Below B w W → Lib.Utf8Tabs 0 1 W) := fun W hb => tabs_bel HA.out.2.2.2 (by rw [HB.out]; exact hb)
  clear hN hT hu hO hU
  cases LR with
  | none =>
    go_enter Tryz.func4, Tryz.ntmps4
    go_upto_region 1 with fail
    rw [HB.out]
    generalize w.alloc _ = X at HX ⊢
    have cT1 := cT.out X HX.out.2.1
    go_upto_region 2 with (first
      | (refine wp_load_sh rfl (.tmp 2) rfl B rfl (shc li ru us (.slice a1 n1 c1) (.slice x2 m2 d2)) rfl HX.out.1 ?_)
      | (go_at_call 14; refine cT1.mono ?_; clear cT1; rintro e w1 ⟨S1, rfl, hs1, hb1⟩; have H1 : Hid (ShAt w1 B (shc li ru us (.slice a1 n1 c1) (.slice x2 m2 d2)) ∧ Below B w w1 ∧ B + 1 ≤ w1.heap.size) := (by have := HX.out.2.2; have := hb1.size; exact ⟨box_below HX.out.1 hb1, HX.out.2.1.trans (hb1.mono (by omega)), by omega⟩); have cL := pvLoad_any S1 w1 li ru us NS TS hs1 HS.out.1 (hTab.out w1 H1.out.2.1); rw [HLR.out] at cL; clear hs1 hb1)
      | (go_at_call 13; refine cL.mono ?_; clear cL; rintro e w2 ⟨hl2, hb2⟩; replace hl2 : e = .returned (.tuple #[.pointer none, .int .i64 1]) := hl2; subst hl2))
    have H2 : Hid (ShAt w2 B (shc li ru us (.slice a1 n1 c1) (.slice x2 m2 d2)) ∧ Below B w w2 ∧ B + 1 ≤ w2.heap.size) := by
      have h1 := H1.out.2.2
      have h2 := hb2.size
      exact ⟨box_below H1.out.1 hb2, H1.out.2.1.trans (hb2.mono (by omega)), by omega⟩
    have cT2 := cT.out w2 H2.out.2.1
    clear hb2 H1 HX
    go_upto_region 3 with (first
      | (refine wp_load_sh rfl (.tmp 2) rfl B rfl (shc li ru us (.slice a1 n1 c1) (.slice x2 m2 d2)) rfl H2.out.1 ?_)
      | (go_at_call 14; refine cT2.mono ?_; clear cT2; rintro e w3 ⟨S3, rfl, hs3, hb3⟩; have H3 : Hid (Below B w w3 ∧ w2.heap.size ≤ w3.heap.size ∧ B + 1 ≤ w3.heap.size ∧ Below w2.heap.size w2 w3) := (by have := H2.out.2.2; have := hb3.size; exact ⟨H2.out.2.1.trans (hb3.mono (by omega)), hb3.size, by omega, hb3⟩); have cM := qLoad_any S3 w3 li ru us NS TS hs3 HS.out.1; rw [HLR.out] at cM; clear hs3 hb3)
      | (go_at_call 15; refine cM.mono ?_; clear cM; rintro e w4 ⟨hl4, hb4⟩; replace hl4 : e = .returned (.tuple #[.pointer none, .bool false]) := hl4; subst hl4))
    have H4 : Hid (Below B w w4 ∧ B ≤ w4.heap.size) := by
      have h1 := H3.out.2.2.1
      have h2 := hb4.size
      exact ⟨H3.out.1.trans (hb4.mono (by omega)), by omega⟩
    have cW := wakes_any w4 (hTab.out w4 H4.out.1)
    go_wp2_with (go_at_call 8; refine cW.mono ?_; clear cW; rintro e w5 ⟨rfl, hb5⟩)
    go_ret
    exact ⟨rfl, by rw [HB.out]; exact H4.out.1.trans (hb5.mono H4.out.2)⟩
  | some P0 =>
    have HK : Hid (Nice P0 20 ∧ Kept P0) := by
      have := load_nice HLR.out HS.out.1.nl HS.out.2.2
      exact ⟨this.1.mono HS.out.2.1, this.2⟩
    go_enter Tryz.func4, Tryz.ntmps4
    go_upto_region 1 with fail
    rw [HB.out]
    generalize w.alloc _ = X at HX ⊢
    have cT1 := cT.out X HX.out.2.1
    go_upto_region 2 with (first
      | (refine wp_load_sh rfl (.tmp 2) rfl B rfl (shc li ru us (.slice a1 n1 c1) (.slice x2 m2 d2)) rfl HX.out.1 ?_)
      | (go_at_call 14; refine cT1.mono ?_; clear cT1; rintro e w1 ⟨S1, rfl, hs1, hb1⟩; have H1 : Hid (ShAt w1 B (shc li ru us (.slice a1 n1 c1) (.slice x2 m2 d2)) ∧ Below B w w1 ∧ B + 1 ≤ w1.heap.size) := (by have := HX.out.2.2; have := hb1.size; exact ⟨box_below HX.out.1 hb1, HX.out.2.1.trans (hb1.mono (by omega)), by omega⟩); have cL := pvLoad_any S1 w1 li ru us NS TS hs1 HS.out.1 (hTab.out w1 H1.out.2.1); rw [HLR.out] at cL; clear hs1 hb1)
      | (go_at_call 13; refine cL.mono ?_; clear cL; rintro e w2 ⟨⟨p, F, he, hL, hF⟩, hb2⟩; subst he))
    have H2 : Hid (ShAt w2 B (shc li ru us (.slice a1 n1 c1) (.slice x2 m2 d2)) ∧ Below B w w2 ∧ B + 1 ≤ w2.heap.size) := by
      have h1 := H1.out.2.2
      have h2 := hb2.size
      exact ⟨box_below H1.out.1 hb2, H1.out.2.1.trans (hb2.mono (by omega)), by omega⟩
    have cT2 := cT.out w2 H2.out.2.1
    have HL2 : Hid (LsAt w2 F p P0 ∧ ∀ i, F i → B ≤ i) := ⟨hL, fun i hi => by have := hF i hi; have := H1.out.2.2; omega⟩
    clear hb2 H1 HX hL hF
    go_upto_region 3 with (first
      | (refine wp_load_sh rfl (.tmp 2) rfl B rfl (shc li ru us (.slice a1 n1 c1) (.slice x2 m2 d2)) rfl H2.out.1 ?_)
      | (go_at_call 14; refine cT2.mono ?_; clear cT2; rintro e w3 ⟨S3, rfl, hs3, hb3⟩; have H3 : Hid (Below B w w3 ∧ w2.heap.size ≤ w3.heap.size ∧ B + 1 ≤ w3.heap.size ∧ Below w2.heap.size w2 w3) := (by have := H2.out.2.2; have := hb3.size; exact ⟨H2.out.2.1.trans (hb3.mono (by omega)), hb3.size, by omega, hb3⟩); have cM := qLoad_any S3 w3 li ru us NS TS hs3 HS.out.1; rw [HLR.out] at cM; clear hs3 hb3)
      | (go_at_call 15; refine cM.mono ?_; clear cM; rintro e w4 ⟨⟨q, G, he, hQ, hG⟩, hb4⟩; subst he))
    have HT4 : Hid (Tw B w w4 p q P0 P0 (fun _ => False)) := Tw.made (HL2.out.1.below H3.out.2.2.2) HL2.out.2 H3.out.1 (by have := H3.out.2.2.1; omega) hQ hG hb4
    clear hb4 hQ hG HL2 H2 H3
    have cW := wakes_any w4 (hTab.out w4 HT4.out.bl)
    go_upto_region 8 with (go_at_call 8; refine cW.mono ?_; clear cW; rintro e w5 ⟨rfl, hb5⟩)
    have HT5 : Hid (Tw B w w5 p q P0 P0 (fun _ => False)) := HT4.out.below hb5
    clear hb5 HT4
    go_loopw [5, 6, 9] (fun s5 _ s9 wr => ∃ (k p' : Nat) (P : Pl), s5 = .pointer (some ⟨p', 0, none⟩) ∧ s9 = .int .i64 (k : Int) ∧ k ≤ n ∧ k ≤ 120 ∧ Hid (Nice P (20 + k) ∧ Kept P) ∧ Hid (Tw B w wr p' q P P (fun _ => False))) (fun _ _ s9 _ => n - (intOf s9).toNat)
    case atStart => exact ⟨0, p, P0, rfl, rfl, by omega, by omega, HK, HT5⟩
    case round =>
      clear HT5 HK
      obtain ⟨k, p', P, rfl, rfl, hk, hk2, HN, HT⟩ := hrel
      by_cases hlt : k < n
      · have hcl : (k : Int) < (n : Int) := by omega
        by_cases hlt2 : k < 120
        · have hcl2 : (k : Int) < 120 := by omega
          obtain ⟨b, off, rfl, hce⟩ := HA.out.2.2.1.flat (by omega)
          obtain ⟨o, ts, gs, hrg, hor⟩ := hce k hlt
          have hrw : Hid (wr.rangeAt b (off + k * 7) (oc o).toList) := range_below hrg (by rw [HB.out]; exact HT.out.bl)
          have cP := plays_any o ts gs B w wr p' q P (20 + k) (fun _ => False) HB.out hor HA.out.2.2.2 HT.out HN.out.1 (by omega)
          clear hce hrg hor
          unfold oc at cP hrw
          go_upto_region 12 with (first
            | (refine wpList_load_mid rfl 34 (.tmp 57) rfl b (off + k * 7) rfl _ _ hrw.out Tryz.underlying34 rfl (by rw [infoOp17]; rfl) ?_; dsimp only [List.toList_toArray])
            | (go_at_call 9; refine cP.mono ?_; clear cP; rintro e w5 ⟨rfl, hp5⟩; obtain ⟨P5, T5, N5, _, K5⟩ := hp5; have H5 : Hid (Tw B w w5 p' q P5 P5 (fun _ => False) ∧ Nice P5 (20 + k + 1) ∧ Kept P5) := ⟨T5, N5, K5 HN.out.2⟩; clear T5 N5 K5))
          have cS := tw_shelf H5.out.1 H5.out.2.1 (by omega)
          obtain ⟨P7, r1, r2, r3, r4, r5⟩ := reload H5.out.2.2
          have HR7 : Hid (loadR P5.li P5.ru P5.us (sortK P5.ks) ((sortK P5.ks).map (textsK P5)) = some P7 ∧ P7.li = P5.li ∧ P7.ru = P5.ru ∧ P7.us = P5.us ∧ ∀ s, P7.m s = P5.m s) := ⟨r1, r2, r3, r4, r5⟩
          clear r1 r2 r3 r4 r5
          go_wp2_with (first
            | (go_at_call 11; refine cS.mono ?_; clear cS; rintro e w6 ⟨S6, rfl, hs6, hb6⟩; have H6 : Hid (Tw B w w6 p' q P5 P5 (fun _ => False)) := H5.out.1.below hb6; have cL := pvLoad_any S6 w6 P5.li P5.ru P5.us (sortK P5.ks) ((sortK P5.ks).map (textsK P5)) hs6.read (kept_small H5.out.2.1 (by omega)) (hTab.out w6 H6.out.bl); rw [HR7.out.1] at cL; clear hs6 hb6)
            | (go_at_call 13; refine cL.mono ?_; clear cL; rintro e w7 ⟨⟨p2, F2, he, hL2, hF2⟩, hb7⟩; subst he; have H7 : Hid (Tw B w w7 p2 q P5 P5 (fun _ => False)) := H6.out.remade hb7 (hL2.as HR7.out.2.1 HR7.out.2.2.1 HR7.out.2.2.2.1 HR7.out.2.2.2.2 H5.out.2.2) hF2; clear hb7 hL2 hF2))
          · exact ⟨⟨k + 1, p2, P5, rfl, by go_num, by omega, by omega, ⟨H5.out.2.1.mono (by omega), H5.out.2.2⟩, H7⟩, by simp [intOf]; omega⟩
          · exact ⟨⟨k + 1, p', P5, rfl, by go_num, by omega, by omega, ⟨H5.out.2.1.mono (by omega), H5.out.2.2⟩, H5.out.1⟩, by simp [intOf]; omega⟩
        · have hcl2 : ¬ (k : Int) < 120 := by omega
          have HF : Hid (Below B w wr) := HT.out.bl
          have cS := tw_shelf HT.out HN.out.1 (by omega)
          go_wp2_with (first
            | (go_at_call 11; refine cS.mono ?_; clear cS; rintro e w6 ⟨S6, rfl, hs6, hb6⟩; have H6 : Hid (Tw B w w6 p' q P P (fun _ => False) ∧ ShR w6 S6 P.li P.ru P.us (sortK P.ks) ((sortK P.ks).map (textsK P))) := ⟨HT.out.below hb6, hs6.read⟩; clear hs6 hb6; have cS2 := tw_qshelf H6.out.1 HN.out.1 (by omega))
            | (go_at_call 12; refine cS2.mono ?_; clear cS2; rintro e w7 ⟨S7, rfl, hs7, hb7⟩; have H7 : Hid (Tw B w w7 p' q P P (fun _ => False)) := H6.out.1.below hb7; have cE := sameShelf_any w7 S6 S7 P.li P.ru P.us (sortK P.ks) ((sortK P.ks).map (textsK P)) (H6.out.2.below hb7) hs7.read; clear hs7 hb7)
            | (go_at_call 10; refine cE.mono ?_; clear cE; rintro e w8 ⟨rfl, hb8⟩; have H8 : Hid (Tw B w w8 p' q P P (fun _ => False)) := H7.out.below hb8; clear hb8))
          go_ret
          exact ⟨rfl, by rw [HB.out]; exact H8.out.bl⟩
      · have hcl : ¬ (k : Int) < (n : Int) := by omega
        have HF : Hid (Below B w wr) := HT.out.bl
        have cS := tw_shelf HT.out HN.out.1 (by omega)
        go_wp2_with (first
          | (go_at_call 11; refine cS.mono ?_; clear cS; rintro e w6 ⟨S6, rfl, hs6, hb6⟩; have H6 : Hid (Tw B w w6 p' q P P (fun _ => False) ∧ ShR w6 S6 P.li P.ru P.us (sortK P.ks) ((sortK P.ks).map (textsK P))) := ⟨HT.out.below hb6, hs6.read⟩; clear hs6 hb6; have cS2 := tw_qshelf H6.out.1 HN.out.1 (by omega))
          | (go_at_call 12; refine cS2.mono ?_; clear cS2; rintro e w7 ⟨S7, rfl, hs7, hb7⟩; have H7 : Hid (Tw B w w7 p' q P P (fun _ => False)) := H6.out.1.below hb7; have cE := sameShelf_any w7 S6 S7 P.li P.ru P.us (sortK P.ks) ((sortK P.ks).map (textsK P)) (H6.out.2.below hb7) hs7.read; clear hs7 hb7)
          | (go_at_call 10; refine cE.mono ?_; clear cE; rintro e w8 ⟨rfl, hb8⟩; have H8 : Hid (Tw B w w8 p' q P P (fun _ => False)) := H7.out.below hb8; clear hb8))
        go_ret
        exact ⟨rfl, by rw [HB.out]; exact H8.out.bl⟩
theorem privacyLoad_any (S : Value) (a : Option Addr) (n c : Nat) (w : World) (li ru : Int) (us : By) (ns : List By) (tss : List (List By)) (h : ShR w S li ru us ns tss) (hu : us.length ≤ 9223372036854775807) (hO : ORd w a n c) (hU : Lib.Utf8Tabs 0 1 w) :
    Calls Tryz.prog 4 #[S, .slice a n c] w fun e w' => e = .returned (.bool true) ∧ Below w.heap.size w w' := by
  obtain ⟨a1, n1, c1, x2, m2, d2, rfl, hN, hT⟩ := h
  exact loadL_any a1 n1 c1 x2 m2 d2 a n c w li ru us ns tss hN hT hu hO hU
end Go.Proofs.YtiplalbicibahaaGreatDoor

/- privacy: a shelf as an argument. -/
set_option maxRecDepth 100000
namespace Go.Proofs.YtiplalbicibahaaGreatDoor
open Go.RowKit Go.Joins Go.Shelf Go.ChangeShapes Go.WideShapes Go.ChangeAt

theorem cellsStrss : Tryz.prog.cellsOf 36 = 1 := by kernel_rfl
theorem cellsShelf : Tryz.prog.cellsOf 38 = 5 := by kernel_rfl
theorem pickT {α β : Type} [Inhabited α] [Inhabited β] {n : Nat} {p : Nat → α → β → Prop} (h : ∀ j, j < n → ∃ x y, p j x y) : ∃ f : Nat → α, ∃ g : Nat → β, ∀ j, j < n → p j (f j) (g j) :=
  ⟨fun j => if hj : j < n then Classical.choose (h j hj) else default, fun j => if hj : j < n then Classical.choose (Classical.choose_spec (h j hj)) else default, fun j hj => by
    show p j (if hj : j < n then Classical.choose (h j hj) else default) (if hj : j < n then Classical.choose (Classical.choose_spec (h j hj)) else default)
    rw [dif_pos hj, dif_pos hj]
    exact Classical.choose_spec (Classical.choose_spec (h j hj))⟩
theorem strss_cell {H : Type} {enc : TypeId × Value → H} {W : World} {fuel : Nat} {a : Option Addr} {n c : Nat} {x : DataW H × List MemPlace} (f : DataW.trod enc Tryz.prog W 0 (fun _ => true) true fuel 36 [.slice a n c] = some x) : ∃ tss, TTd W a n c tss := by
  rcases Go.Deep.open_slice Tryz.underlying36 f with ⟨hcs, _⟩ | ⟨x, l, cc, m, k, D, Pl, hcs, hb, hl, hm, hmm, _, hx⟩
  · simp at hcs
    obtain ⟨rfl, rfl, rfl⟩ := hcs
    exact ⟨[], rfl, Nat.le_refl _, Nat.zero_le _, fun h => by omega⟩
  · simp at hcs
    obtain ⟨rfl, rfl, rfl⟩ := hcs
    simp only [if_true] at hmm
    subst hmm
    have each : ∀ j, j < n → ∃ (v : Value) (ts : List By), W.cell? (x.add j) = some v ∧ ∃ a2 n2 c2, v = .slice a2 n2 c2 ∧ TRd W a2 n2 c2 ts := by
      intro j hj
      obtain ⟨cs', h1, h2⟩ := hx j (by omega)
      rw [cellsStrs, Nat.mul_one] at h1
      obtain ⟨_, hlen, hcell⟩ := World.cells?_some h1
      match cs', hlen with
      | [c0], _ =>
        obtain ⟨a2, n2, c2, ts, rfl, ht⟩ := strs_cell h2
        have h0 := hcell 0 (by omega)
        rw [Go.Deep.add_add] at h0
        exact ⟨_, ts, by simpa using h0, a2, n2, c2, rfl, ht⟩
    obtain ⟨fv, ft, hy⟩ := pickT each
    refine ⟨(List.range n).map ft, by simp, hl, hm, fun h0 => ?_⟩
    obtain ⟨b, off, spot⟩ := x
    have hspot : spot = none := by simpa [Addr.add] using World.cell?_spot (hy 0 h0).1
    subst hspot
    refine ⟨b, off, rfl, fun j hj => ?_⟩
    obtain ⟨g0, a2, n2, c2, g1, g2⟩ := hy j hj
    rw [add_flat, g1] at g0
    refine ⟨a2, n2, c2, g0, ?_⟩
    rw [List.getD_eq_getElem?_getD, List.getElem?_map, List.getElem?_range hj]
    exact g2
theorem list5 {α : Type} {l : List α} (h : l.length = 5) : ∃ c0 c1 c2 c3 c4, l = [c0, c1, c2, c3, c4] := by
  match l, h with
  | [c0, c1, c2, c3, c4], _ => exact ⟨c0, c1, c2, c3, c4, rfl⟩
theorem open_shelf {H : Type} {enc : TypeId × Value → H} {W : World} {b0 : Nat} {v : Value} {d : DataW H} {p : List MemPlace}
    (hv : Value.okWide Tryz.prog W .any b0 38 v) (h : DataW.Trod enc Tryz.prog W 0 (fun _ => true) true 38 v d p) : ∃ li ru us ns tss, ShR W v li ru us ns tss ∧ us.length ≤ 9223372036854775807 := by
  obtain ⟨cs, rfl, hsz⟩ := okWide_struct Tryz.underlying38 hv
  obtain ⟨l⟩ := cs
  obtain ⟨c0, c1, c2, c3, c4, rfl⟩ := list5 (show l.length = 5 from hsz.trans cellsShelf)
  obtain ⟨fuel, hf⟩ := h
  have f : DataW.trod enc Tryz.prog W 0 (fun _ => true) true fuel 38 [c0, c1, c2, c3, c4] = some (d, p) := by simpa [Value.cells] using hf
  obtain ⟨ys, n, _, hx, hl, hlen, hfs⟩ := DataW.trod_struct Tryz.underlying38 f
  match ys, hlen with
  | [y0, y1, y2, y3, y4], _ =>
    have f0 : DataW.trod enc Tryz.prog W 0 (fun _ => true) true n 3 [c0] = some y0 := by simpa [Value.cells, cellsInt] using hfs 0 _ rfl
    have f1 : DataW.trod enc Tryz.prog W 0 (fun _ => true) true n 3 [c1] = some y1 := by simpa [Value.cells, cellsInt] using hfs 1 _ rfl
    have f2 : DataW.trod enc Tryz.prog W 0 (fun _ => true) true n 9 [c2] = some y2 := by simpa [Value.cells, cellsStr] using hfs 2 _ rfl
    have f3 : DataW.trod enc Tryz.prog W 0 (fun _ => true) true n 32 [c3] = some y3 := by simpa [Value.cells, cellsStrs] using hfs 3 _ rfl
    have f4 : DataW.trod enc Tryz.prog W 0 (fun _ => true) true n 36 [c4] = some y4 := by simpa [Value.cells, cellsStrss] using hfs 4 _ rfl
    obtain ⟨L, e0, _, w0⟩ := DataW.trod_int Tryz.underlying3 f0
    obtain ⟨R, e1, _, w1⟩ := DataW.trod_int Tryz.underlying3 f1
    obtain ⟨D, e2, _, w2⟩ := DataW.trod_string Tryz.underlying9 f2
    simp only [List.cons.injEq, and_true] at e0 e1 e2
    subst e0 e1 e2
    obtain ⟨a, m, c, ns, rfl, hT⟩ := strs_cell f3
    have hz4 : ∃ a4 n4 d4, c4 = .slice a4 n4 d4 := by
      rcases Go.Deep.open_slice Tryz.underlying36 f4 with ⟨hcs, _⟩ | ⟨x, l, cc, m, k, D, Pl, hcs, _⟩
      · simp at hcs
        exact ⟨_, _, _, hcs⟩
      · simp at hcs
        exact ⟨_, _, _, hcs⟩
    obtain ⟨a4, n4, d4, rfl⟩ := hz4
    obtain ⟨tss, hTT⟩ := strss_cell f4
    refine ⟨L, R, D.data.toList, ns, tss, ⟨a, m, c, a4, n4, d4, ?_, hT, hTT⟩, ?_⟩
    · unfold shc; rw [ba_back]
    · have : D.data.toList.length = D.size := by simp
      rw [this]; exact w2
end Go.Proofs.YtiplalbicibahaaGreatDoor

/- privacy: spoil: what a shelf's rows hold is written over, nothing else. -/
set_option maxRecDepth 100000
namespace Go.Proofs.YtiplalbicibahaaGreatDoor
open Go.RowKit Go.Joins Go.Shelf

/-- A row of texts that may be written over, in blocks of Z. -/
def Row (w : World) (Z : Nat → Prop) (v : Value) : Prop := ∃ a n c, v = .slice a n c ∧ n ≤ c ∧ c ≤ maxLen ∧ (0 < n → ∃ b off, a = some ⟨b, off, none⟩ ∧ Z b ∧ ∃ cur, w.heap[b]? = some (.cells cur 9 (0, 0)) ∧ off + n ≤ cur.size)
theorem Row.set {w : World} {Z : Nat → Prop} {v : Value} (h : Row w Z v) (g i : Nat) (u : Value) : Row (w.setCell ⟨g, i, none⟩ u) Z v := by
  obtain ⟨a, n, c, e, h1, h2, h3⟩ := h
  refine ⟨a, n, c, e, h1, h2, fun h0 => ?_⟩
  obtain ⟨b, off, e2, hz, cur, hb, hs⟩ := h3 h0
  by_cases hg : b = g
  · subst hg
    exact ⟨b, off, e2, hz, _, block_setCell (i := i) hb u, by simpa using hs⟩
  · exact ⟨b, off, e2, hz, cur, box_keep hb (setK w g i u) hg, hs⟩
theorem Row.below {w w' : World} {Z : Nat → Prop} {v : Value} (h : Row w Z v) (hb : Below w.heap.size w w') : Row w' Z v := by
  obtain ⟨a, n, c, e, h1, h2, h3⟩ := h
  refine ⟨a, n, c, e, h1, h2, fun h0 => ?_⟩
  obtain ⟨b, off, e2, hz, cur, hc, hs⟩ := h3 h0
  exact ⟨b, off, e2, hz, cur, box_below hc hb, hs⟩
theorem Row.mono {w : World} {Z Z' : Nat → Prop} {v : Value} (h : Row w Z v) (hz : ∀ i, Z i → i < w.heap.size → Z' i) : Row w Z' v := by
  obtain ⟨a, n, c, e, h1, h2, h3⟩ := h
  refine ⟨a, n, c, e, h1, h2, fun h0 => ?_⟩
  obtain ⟨b, off, e2, hz2, cur, hc, hs⟩ := h3 h0
  exact ⟨b, off, e2, hz b hz2 (box_lt hc), cur, hc, hs⟩
theorem row_of {w : World} {Z : Nat → Prop} {a : Option Addr} {n c : Nat} {ts : List By} (h : TRd w a n c ts) (hf : ∀ ad, a = some ad → Z ad.block ∧ Ty w ad.block) : Row w Z (.slice a n c) := by
  refine ⟨a, n, c, rfl, h.cap, h.most, fun h0 => ?_⟩
  obtain ⟨b, off, e, hc⟩ := h.flat h0
  subst e
  obtain ⟨hz, cur, hb⟩ := hf _ rfl
  refine ⟨b, off, rfl, hz, cur, hb, ?_⟩
  have := hc (n - 1) (by omega)
  rw [cell_of_block hb] at this
  have h2 := (Array.getElem?_eq_some_iff.1 this).1
  omega
/-- What spoil may take. -/
structure SpI (X wr : World) (Z : Nat → Prop) (g : Nat) (li ru : Int) (us : By) (vN : Value) (aT : Option Addr) (m cT : Nat) (vs : List Value) : Prop where
  box : ShAt wr g (shc li ru us vN (.slice aT m cT))
  nm : Row wr Z vN
  tx : VRd wr aT m cT vs
  rw' : ∀ (j : Nat) (v : Value), vs[j]? = some v → Row wr Z v
  nT : ∀ ad, aT = some ad → ¬ Z ad.block
  gz : ¬ Z g
  kp : Keep Z X wr
theorem SpI.set {X wr : World} {Z : Nat → Prop} {g : Nat} {li ru : Int} {us : By} {vN : Value} {aT : Option Addr} {m cT : Nat} {vs : List Value} (h : SpI X wr Z g li ru us vN aT m cT vs) (b i : Nat) (hz : Z b) (u : Value) : SpI X (wr.setCell ⟨b, i, none⟩ u) Z g li ru us vN aT m cT vs := by
  have hk := setK wr b i u
  exact ⟨box_keep h.box hk (fun e => h.gz (by rw [e]; exact hz)), h.nm.set b i u, h.tx.keep hk (fun ad e e2 => h.nT ad e (by rw [e2]; exact hz)), fun j v hv => (h.rw' j v hv).set b i u, h.nT, h.gz, h.kp.trans (hk.mono (fun i e => by rw [e]; exact hz))⟩
def SpZ (w : World) (Z : Nat → Prop) (S : Value) : Prop := ∃ li ru us vN aT m cT vs, S = .agg (shc li ru us vN (.slice aT m cT)) ∧ Row w Z vN ∧ VRd w aT m cT vs ∧ (∀ (j : Nat) (v : Value), vs[j]? = some v → Row w Z v) ∧ (∀ ad, aT = some ad → ¬ Z ad.block) ∧ ∀ i, Z i → i < w.heap.size
theorem SpZ.below {w w' : World} {Z : Nat → Prop} {S : Value} (h : SpZ w Z S) (hb : Below w.heap.size w w') : SpZ w' Z S := by
  obtain ⟨li, ru, us, vN, aT, m, cT, vs, e, h1, h2, h3, h4, h5⟩ := h
  exact ⟨li, ru, us, vN, aT, m, cT, vs, e, h1.below hb, h2.below hb, fun j v hv => (h3 j v hv).below hb, h4, fun i hi => Nat.lt_of_lt_of_le (h5 i hi) hb.size⟩
/-- What Shelf or TwinShelf told may be spoilt: in blocks of its own. -/
theorem ShA.spz {w : World} {B : Nat} {li ru : Int} {us : By} {ns : List By} {tss : List (List By)} {S : Value} (h : ShA w B li ru us ns tss S) : ∃ Z : Nat → Prop, SpZ w Z S ∧ ∀ i, Z i → B ≤ i ∧ i < w.heap.size := by
  obtain ⟨vN, vT, vs, rfl, h1, h2, h3⟩ := h
  obtain ⟨aT, cT, rfl, t2⟩ := VRd.ofOwn h2
  obtain ⟨aN, cN, rfl, t1⟩ := TRd.ofOwn h1
  refine ⟨fun i => B ≤ i ∧ i < w.heap.size ∧ (Value.slice aT tss.length cT).ownBlock ≠ some i, ⟨li, ru, us, _, aT, _, cT, vs, rfl, ?_, t2, fun j v hv => ?_, ?_, fun i hi => hi.2.1⟩, fun i hi => ⟨hi.1, hi.2.1⟩⟩
  · refine row_of t1 (fun ad e => ?_)
    subst e
    have hl := h1.lt ad.block rfl
    exact ⟨⟨hl.1, hl.2, fun e2 => own_apart h1 h2 (by decide) ad.block rfl e2⟩, own_ty h1⟩
  · obtain ⟨a, n, c, rfl, ht, hf⟩ := h3.row j v hv
    refine row_of ht (fun ad e => ?_)
    obtain ⟨⟨f1, f2, f3⟩, f4⟩ := hf ad e
    obtain ⟨cur, hc⟩ := f4
    exact ⟨⟨f1, box_lt hc, f3⟩, cur, hc⟩
  · intro ad e hz
    exact hz.2.2 (by subst e; rfl)
set_option maxHeartbeats 3200000 in
theorem spoil_any (S : Value) (w : World) (Z : Nat → Prop) (h : SpZ w Z S) :
    Calls Tryz.prog 16 #[S] w fun e w' => e = .returned (.tuple #[]) ∧ Keep Z w w' := by
  obtain ⟨li, ru, us, vN, aT, m, cT, vs, rfl, h1, h2, h3, h4, h5⟩ := h
  obtain ⟨g, Hg⟩ : ∃ g, Hid (w.heap.size = g) := ⟨_, rfl⟩
  have HI : Hid (SpI (w.alloc (.cells (shc li ru us vN (.slice aT m cT)) 38)) (w.alloc (.cells (shc li ru us vN (.slice aT m cT)) 38)) Z g li ru us vN aT m cT vs ∧ Keep Z w (w.alloc (.cells (shc li ru us vN (.slice aT m cT)) 38))) := by
    have hb := below1 w (.cells (shc li ru us vN (.slice aT m cT)) 38)
    rw [← Hg.out]
    exact ⟨⟨push_at _ _ rfl, h1.below hb, h2.below hb, fun j v hv => (h3 j v hv).below hb, h4, fun e => by have := h5 _ e; omega, Keep.refl _ _⟩, Keep.ofBelow hb⟩
  have hcT := h2.cap
  have hmT := h2.most
  unfold maxLen at hmT
  have Hm : Hid (vs.length = m) := h2.len
  obtain ⟨aN, n, cN, rfl, hcN, hmN, _⟩ := h1
  unfold maxLen at hmN
  clear h2 h3 h4 h5
  go_enter Tryz.func16, Tryz.ntmps16
  go_upto_region 2 with fail
  rw [Hg.out]
  generalize w.alloc _ = X at HI ⊢
  go_loopw [2] (fun s2 wr => ∃ k : Nat, s2 = .int .i64 (k : Int) ∧ k ≤ n ∧ Hid (SpI X wr Z g li ru us (.slice aN n cN) aT m cT vs)) (fun s2 _ => n - (intOf s2).toNat)
  case atStart => exact ⟨0, rfl, by omega, HI.out.1⟩
  case round =>
    obtain ⟨k, rfl, hk, HS⟩ := hrel
    have u3 := sh3 HS.out.box
    by_cases hlt : k < n
    · have hcl : (k : Int) < (n : Int) := by omega
      have hk0 : (0 : Int) ≤ (k : Int) := by omega
      obtain ⟨a', n', c', e', _, _, hrow⟩ := HS.out.nm
      injection e' with e1 e2 e3
      subst e1 e2 e3
      obtain ⟨b, off, rfl, hz, cur, hb, hsz⟩ := hrow (by omega)
      have hcell : ∃ u, wr.cell? ⟨b, off + k, none⟩ = some u := by
        rw [cell_of_block hb]
        exact ⟨_, Array.getElem?_eq_getElem (by omega)⟩
      obtain ⟨u0, hcell⟩ := hcell
      have hfz := unfrozen_of_block hb (off + k)
      have HN : Hid (SpI X (wr.setCell ⟨b, off + k, none⟩ (.string ⟨#[99, 104, 97, 110, 103, 101, 100]⟩)) Z g li ru us (.slice (some ⟨b, off, none⟩) n cN) aT m cT vs) := HS.out.set b (off + k) hz _
      clear hrow hb hsz
      go_wp2
      exact ⟨⟨k + 1, by go_num, by omega, HN⟩, by simp [intOf]; omega⟩
    · have hcl : ¬ (k : Int) < (n : Int) := by omega
      go_upto_region 6 with fail
      clear u3
      go_loopw [3, 4] (fun s3 _ wr => ∃ j : Nat, s3 = .int .i64 (j : Int) ∧ j ≤ m ∧ Hid (SpI X wr Z g li ru us (.slice aN n cN) aT m cT vs)) (fun s3 _ _ => m - (intOf s3).toNat)
      case atStart => exact ⟨0, rfl, by omega, HS⟩
      case round =>
        clear HS
        obtain ⟨j, rfl, hj, HS⟩ := hrel
        have u4 := sh4 HS.out.box
        by_cases hjm : j < m
        · have hjl : (j : Int) < (m : Int) := by omega
          have hj0 : (0 : Int) ≤ (j : Int) := by omega
          obtain ⟨y, hy⟩ : ∃ y, vs[j]? = some y := ⟨_, List.getElem?_eq_getElem (by rw [Hm.out]; exact hjm)⟩
          obtain ⟨ar, nr, cr, rfl, hcr, hmr, _⟩ := HS.out.rw' j y hy
          unfold maxLen at hmr
          obtain ⟨tb, toff, hte, _⟩ := HS.out.tx.flat (by omega)
          subst hte
          have Hy : Hid (vs[j]? = some (.slice ar nr cr)) := hy
          clear hy
          go_upto_region 9 with fail
          clear u4
          go_loopw [4] (fun s4 wr => ∃ k : Nat, s4 = .int .i64 (k : Int) ∧ k ≤ nr ∧ Hid (SpI X wr Z g li ru us (.slice aN n cN) (some ⟨tb, toff, none⟩) m cT vs)) (fun s4 _ => nr - (intOf s4).toNat)
          case atStart => exact ⟨0, rfl, by omega, HS⟩
          case round =>
            clear HS
            obtain ⟨k, rfl, hk, HS⟩ := hrel
            have u4 := sh4 HS.out.box
            have uy : wr.cell? ⟨tb, toff + j, none⟩ = some (.slice ar nr cr) := by
              obtain ⟨tb', toff', e', hx⟩ := HS.out.tx.flat (by omega)
              injection e' with e'
              injection e' with e1 e2
              subst e1 e2
              exact hx j _ Hy.out
            by_cases hkn : k < nr
            · have hkl : (k : Int) < (nr : Int) := by omega
              have hk0 : (0 : Int) ≤ (k : Int) := by omega
              obtain ⟨a', n', c', e', _, _, hrow⟩ := HS.out.rw' j _ Hy.out
              injection e' with e1 e2 e3
              subst e1 e2 e3
              obtain ⟨b, off, rfl, hz, cur, hb, hsz⟩ := hrow (by omega)
              have hcell : ∃ u, wr.cell? ⟨b, off + k, none⟩ = some u := by
                rw [cell_of_block hb]
                exact ⟨_, Array.getElem?_eq_getElem (by omega)⟩
              obtain ⟨u0, hcell⟩ := hcell
              have hfz := unfrozen_of_block hb (off + k)
              have HN : Hid (SpI X (wr.setCell ⟨b, off + k, none⟩ (.string ⟨#[99, 104, 97, 110, 103, 101, 100]⟩)) Z g li ru us (.slice aN n cN) (some ⟨tb, toff, none⟩) m cT vs) := HS.out.set b (off + k) hz _
              clear hrow hb hsz
              go_wp2
              go_roundw
              case rel => exact ⟨k + 1, by go_num, by omega, HN⟩
              case measure => simp [intOf]; omega
            · have hkl : ¬ (k : Int) < (nr : Int) := by omega
              go_wp2
              go_roundw
              case rel => exact ⟨j + 1, by go_num, by omega, HS⟩
              case measure => simp [intOf]; omega
        · have hjl : ¬ (j : Int) < (m : Int) := by omega
          go_wp2
          go_end0
          exact ⟨rfl, HI.out.2.trans HS.out.kp⟩
end Go.Proofs.YtiplalbicibahaaGreatDoor
