/- privacy: Set. -/
import Derived.Test.YtiplalbicibahaaDoorPvI
set_option maxRecDepth 100000
namespace Go.Proofs.YtiplalbicibahaaDoor
open Go.RowKit Go.Joins Go.Shelf

/-- What Set does. -/
def fullR (P : Pl) (s : By) (n : Nat) : Bool := decide (P.ru < (n : Int)) || (!(P.m s).isSome && decide (P.li ≤ (P.ks.length : Int)))
def putP (P : Pl) (s : By) (rs : List Rul) : Pl := { P with ks := if (P.m s).isSome = true then P.ks else s :: P.ks, m := putM P.m s (some rs) }
def setR (P : Pl) (s : By) (ts : List By) : Nat × Pl :=
  if nameE s ≠ 0 then (nameE s, P)
  else if (readR ts).2 ≠ 0 then ((readR ts).2, P)
  else if fullR P s ts.length = true then (8, P)
  else (0, putP P s (readR ts).1)

theorem LsM.put {w w1 w' : World} {F : Nat → Prop} {q mb : Nat} {m : By → Option Rw} {P : Pl} (h : LsM w F q mb m P) (hb : Below w.heap.size w w1) (s : By) (f : Rw) (rs : List Rul) (hf : RRd w1 f rs) (hfn : ∀ g, f.1 = some g → w.heap.size ≤ g)
    (hm : RMap w' mb (P.ks.length + 1) (putM m s (some f))) (hk : Keep (fun i => i = mb) w1 w') : Lq w F q (putP P s rs) w' := by
  have h1 := h.below hb
  have hks : (putP P s rs).ks.Nodup := by
    unfold putP
    by_cases hs : (P.m s).isSome = true
    · rw [if_pos hs]; exact h.nd
    · rw [if_neg hs]
      exact List.nodup_cons.2 ⟨fun e => hs ((h.mem s).2 e), h.nd⟩
  have hmem : ∀ u, ((putP P s rs).m u).isSome = true ↔ u ∈ (putP P s rs).ks := fun u => by
    unfold putP
    dsimp only
    by_cases hu : u = s
    · subst hu
      rw [putM_same]
      by_cases hs : (P.m u).isSome = true
      · rw [if_pos hs]; simp [(h.mem u).1 hs]
      · rw [if_neg hs]; simp
    · rw [putM_other _ _ hu, h.mem u]
      by_cases hs : (P.m s).isSome = true
      · rw [if_pos hs]
      · rw [if_neg hs]; simp [hu]
  have htie : ∀ u, TieR w' (fun i => F i ∨ (w.heap.size ≤ i ∧ i < w'.heap.size)) (putM m s (some f) u) ((putP P s rs).m u) := fun u => by
    unfold putP
    dsimp only
    by_cases hu : u = s
    · subst hu
      rw [putM_same, putM_same]
      refine ⟨hf.keep hk (fun g hg e => ?_), fun g hg => Or.inr ⟨hfn g hg, ?_⟩⟩
      · have := hfn g hg; have := h.lt mb h.fm; omega
      · obtain ⟨cur, hc⟩ := hf.typ g hg
        exact Nat.lt_of_lt_of_le (box_lt hc) hk.size
    · rw [putM_other _ _ hu, putM_other _ _ hu]
      exact (h1.tie u).keep hk (fun f g hf hg e => (h1.row hf hg).2 e) (fun i hi => Or.inl hi)
  refine ⟨fun i => F i ∨ (w.heap.size ≤ i ∧ i < w'.heap.size), ⟨mb, putM m s (some f), ?_⟩, (Keep.ofBelow hb).trans (hk.mono (fun i e => by rw [e]; exact h.fm)), fun i hi => hi.imp id (fun k => k.1)⟩
  refine ⟨box_keep h1.blk hk (fun e => h1.ne e), ?_, Or.inl h.fq, Or.inl h.fm, htie, fun i hi => ?_, hks, hmem⟩
  · exact hm.tight _ hks (fun u => by rw [(htie u).isSome]; exact hmem u)
  · rcases hi with z | z
    · exact Nat.lt_of_lt_of_le (h1.lt i z) hk.size
    · exact z.2

theorem exec_mapput {o : Oper} {ρ : Operand → Value} {w w' : World} (p y z : Operand) (ho : o.op = .mapUpdate 63 p y z) (mb : Nat) (hp : ρ p = .map (some mb)) (c : ByteArray) (hy : ρ y = .string c) (v : Value) (hz : ρ z = v)
    (hrun : (Instr.mapUpdate 63 (.map (some mb)) (.string c) v).run Tryd.prog w = .ok () w') : (execOp ρ o).run Tryd.prog w = .ok .skip w' := by
  unfold execOp
  simp only [ho, hp, hy, hz, Sem.run_bind, hrun, Result.andThen_ok, Sem.run_pure]

theorem LsM.hmem {w : World} {F : Nat → Prop} {q mb : Nat} {m : By → Option Rw} {P : Pl} (h : LsM w F q mb m P) (s : By) : (m s).isSome = true ↔ s ∈ P.ks := by rw [(h.tie s).isSome]; exact h.mem s
set_option maxHeartbeats 1600000 in
theorem set_1 (s : By) (a : Option Addr) (n c : Nat) (w : World) (F : Nat → Prop) (q mb : Nat) (m : By → Option Rw) (P : Pl) (h : LsM w F q mb m P) (hs : s.length ≤ 1000000) (hT : Lib.Utf8Tabs 0 1 w) (h0 : nameE s ≠ 0) :
    Calls Tryd.prog 15 #[.pointer (some ⟨q, 0, none⟩), .string (ba s), .slice a n c] w fun e w' => e = .returned (.int .i64 (nameE s : Nat)) ∧ Lq w F q P w' := by
  have cN := checkName_any (ba s) w (by rw [ba_size]; omega) hT
  rw [ba_list] at cN
  have HH : Hid (LsM w F q mb m P) := h
  clear hT h hs
  generalize nameE s = ne at *
  have hd : ((ne : Int) != 0) = true := by simp; omega
  clear h0
  go_enter Tryd.func15, Tryd.ntmps15
  go_wp2_with (go_at_call 27; refine cN.mono ?_; clear cN; rintro e w1 ⟨rfl, hb1⟩)
  go_ret
  exact ⟨rfl, Lq.ofBelow ⟨mb, m, HH.out⟩ hb1⟩
set_option maxHeartbeats 1600000 in
theorem set_2 (s : By) (a : Option Addr) (n c : Nat) (ts : List By) (w : World) (F : Nat → Prop) (q mb : Nat) (m : By → Option Rw) (P : Pl) (h : LsM w F q mb m P) (hs : s.length ≤ 1000000) (hR : TRd w a n c ts) (hn : n ≤ 100000) (hts : ∀ t ∈ ts, t.length ≤ 2000000) (hT : Lib.Utf8Tabs 0 1 w) (h0 : nameE s = 0) (h1 : (readR ts).2 ≠ 0) :
    Calls Tryd.prog 15 #[.pointer (some ⟨q, 0, none⟩), .string (ba s), .slice a n c] w fun e w' => e = .returned (.int .i64 ((readR ts).2 : Nat)) ∧ Lq w F q P w' := by
  have cN := checkName_any (ba s) w (by rw [ba_size]; omega) hT
  rw [ba_list] at cN
  have HH : Hid (LsM w F q mb m P) := h
  have hlen : ts.length = n := hR.len
  rw [h0] at cN
  have cR : Hid (∀ w1, Below w.heap.size w w1 → Calls Tryd.prog 28 #[.slice a n c] w1 (fun e w2 => e = .returned (.tuple #[.slice none 0 0, .int .i64 ((readR ts).2 : Nat)]) ∧ Below w1.heap.size w1 w2)) := fun w1 hb => (read_any a n c ts w1 (hR.below hb) hn hts (tabs_bel hT hb)).mono (fun e w2 hh => ⟨hh.1.elim (fun z => absurd z.1 h1) (fun z => z.2), hh.2⟩)
  clear hR hn hts hT h hlen hs h0
  generalize (readR ts).2 = ne at *
  have hd : ((ne : Int) != 0) = true := by simp; omega
  clear h1
  go_enter Tryd.func15, Tryd.ntmps15
  go_wp2_with (first
    | (go_at_call 27; refine cN.mono ?_; clear cN; rintro e w1 ⟨rfl, hb1⟩; have cR := cR.out w1 hb1)
    | (go_at_call 28; refine cR.mono ?_; clear cR; rintro e w2 ⟨rfl, hb2⟩))
  go_ret
  exact ⟨rfl, Lq.ofBelow ⟨mb, m, HH.out⟩ (hb1.trans (hb2.mono hb1.size))⟩
set_option maxHeartbeats 1600000 in
theorem set_3 (s : By) (a : Option Addr) (n c : Nat) (ts : List By) (w : World) (F : Nat → Prop) (q mb : Nat) (m : By → Option Rw) (P : Pl) (h : LsM w F q mb m P) (hs : s.length ≤ 1000000) (hR : TRd w a n c ts) (hn : n ≤ 100000) (hts : ∀ t ∈ ts, t.length ≤ 2000000) (hk : P.ks.length < 900000) (hT : Lib.Utf8Tabs 0 1 w) (h0 : nameE s = 0) (h1 : (readR ts).2 = 0) (hd1 : Hid (decide (P.ru < (n : Int)) = true)) :
    Calls Tryd.prog 15 #[.pointer (some ⟨q, 0, none⟩), .string (ba s), .slice a n c] w fun e w' => e = .returned (.int .i64 8) ∧ Lq w F q P w' := by
  have cN := checkName_any (ba s) w (by rw [ba_size]; omega) hT
  rw [ba_list] at cN
  have HH : Hid (LsM w F q mb m P) := h
  have hlen : ts.length = n := hR.len
  rw [h0] at cN
  have cR2 : Hid (∀ w1, Below w.heap.size w w1 → Calls Tryd.prog 28 #[.slice a n c] w1 (fun e w2 => ∃ fa fc, e = .returned (.tuple #[.slice (fa.map fun g => ⟨g, 0, none⟩) n fc, .int .i64 0]) ∧ Hid (RRd w2 (fa, n, fc) (readR ts).1 ∧ (∀ g, fa = some g → w1.heap.size ≤ g) ∧ Below w1.heap.size w1 w2))) := fun w1 hb => (read_any a n c ts w1 (hR.below hb) hn hts (tabs_bel hT hb)).mono (fun e w2 hh => by
    obtain ⟨hA, hB⟩ := hh
    rcases hA with ⟨_, v, rfl, ho⟩ | ⟨hne, _⟩
    · obtain ⟨⟨fa, fn, fc⟩, rfl, hf, hfn, hfb⟩ := RRd.ofOwn ho
      have : fn = n := by rw [← hlen]; exact hfn
      subst this
      exact ⟨fa, fc, rfl, hf, fun g hg => (hfb g hg).1, hB⟩
    · exact absurd h1 hne)
  have HL : Hid (P.ks.length < 900000 ∧ s.length ≤ 1000000) := ⟨hk, hs⟩
  have cH : Hid (∀ w1, LsM w1 F q mb m P → Calls Tryd.prog 29 #[.pointer (some ⟨q, 0, none⟩), .string (ba s)] w1 fun e w' => e = .returned (.bool (P.m s).isSome) ∧ w' = w1) := fun w1 k => has_any s w1 F q mb m P k hs
  generalize (readR ts).1 = rs at *
  clear hR hn hts hk hT h hlen hs h0 h1
  go_enter Tryd.func15, Tryd.ntmps15
  go_upto_region 7 with (first
    | (go_at_call 27; refine cN.mono ?_; clear cN; rintro e w1 ⟨rfl, hb1⟩; have cR := cR2.out w1 hb1; clear cR2)
    | (go_at_call 28; refine cR.mono ?_; clear cR; rintro e w2 ⟨fa, fc, rfl, hf⟩))
  have HB2 : Hid (Below w.heap.size w w2.drew ∧ RRd w2.drew (fa, n, fc) rs ∧ ∀ g, fa = some g → w.heap.size ≤ g) := ⟨(hb1.trans (hf.out.2.2.mono hb1.size)).drew, hf.out.1.keep (S := fun _ => False) (Keep.refl _ _).drew (fun _ _ h => h), fun g hg => Nat.le_trans hb1.size (hf.out.2.1 g hg)⟩
  have HS0 : LsM w2.drew F q mb m P := HH.out.below HB2.out.1
  clear hf hb1
  refine wp_region_lx (fun w' => LsM w' F q mb m P) [] 25 (by kernel_rfl) (by kernel_rfl) ?_
  generalize hfa : (fa.map fun g => (⟨g, 0, none⟩ : Addr)) = fA
  replace hfa : Hid _ := hfa
  generalize w2.drew = X at HB2 HS0 ⊢
  obtain ⟨len, HLn⟩ : ∃ len, Hid (P.ks.length = len) := ⟨_, rfl⟩
  refine lx_rd 0 ?vA0 (by kernel_rfl) (fun _ _ d _ _ h => by cases d <;> exact h) (by kernel_rfl) HS0 rfl rfl rfl (fun w' hS => ?hA0) ?_
  case hA0 => first | (go_simp; rfl) | go_simp
  simp only [List.setIfInBounds_toArray, List.set_cons_zero, List.set_cons_succ]
  refine lx_rd 1 (.int .i64 n) (by kernel_rfl) (fun _ _ d _ _ h => by cases d <;> exact h) (by kernel_rfl) HS0 rfl rfl rfl (fun w' hS => ?hA1) ?_
  case hA1 => first | (go_simp; rfl) | go_simp
  simp only [List.setIfInBounds_toArray, List.set_cons_zero, List.set_cons_succ]
  refine lx_rd 2 (.pointer (some ⟨q, 0, none⟩)) (by kernel_rfl) (fun _ _ d _ _ h => by cases d <;> exact h) (by kernel_rfl) HS0 rfl rfl rfl (fun w' hS => ?hA2) ?_
  case hA2 => first | (go_simp; rfl) | go_simp
  simp only [List.setIfInBounds_toArray, List.set_cons_zero, List.set_cons_succ]
  refine lx_rd 3 (.pointer (some ⟨q, 0, none⟩)) (by kernel_rfl) (fun _ _ d _ _ h => by cases d <;> exact h) (by kernel_rfl) HS0 rfl rfl rfl (fun w' hS => ?hA3) ?_
  case hA3 => first | (go_simp; rfl) | go_simp
  simp only [List.setIfInBounds_toArray, List.set_cons_zero, List.set_cons_succ]
  refine lx_rd 4 (.pointer (some ⟨q, 1, none⟩)) (by kernel_rfl) (fun _ _ d _ _ h => by cases d <;> exact h) (by kernel_rfl) HS0 rfl rfl rfl (fun w' hS => ?hA4) ?_
  case hA4 => first | (go_simp; rfl) | go_simp
  simp only [List.setIfInBounds_toArray, List.set_cons_zero, List.set_cons_succ]
  refine lx_rd 5 (.int .i64 P.ru) (by kernel_rfl) (fun _ _ d _ _ h => by cases d <;> exact h) (by kernel_rfl) HS0 rfl rfl rfl (fun w' hS => ?hA5) ?_
  case hA5 => have q0 := hS.c1; first | (go_simp; rfl) | go_simp
  simp only [List.setIfInBounds_toArray, List.set_cons_zero, List.set_cons_succ]
  refine lx_rd 6 (.bool true) (by kernel_rfl) (fun _ _ d _ _ h => by cases d <;> exact h) (by kernel_rfl) HS0 rfl rfl rfl (fun w' hS => ?hA6) ?_
  case hA6 => have q1 := hd1.out; first | (go_simp; rfl) | go_simp
  simp only [List.setIfInBounds_toArray, List.set_cons_zero, List.set_cons_succ]
  refine lx_rd 7 (.bool true) (by kernel_rfl) (fun _ _ d _ _ h => by cases d <;> exact h) (by kernel_rfl) HS0 rfl rfl rfl (fun w' hS => ?hA7) ?_
  case hA7 => first | (go_simp; rfl) | go_simp
  simp only [List.setIfInBounds_toArray, List.set_cons_zero, List.set_cons_succ]
  refine lx_skip 8 (by kernel_rfl) (fun _ _ d _ _ h => by cases d <;> exact h) (by kernel_rfl) HS0 rfl rfl rfl ?_
  simp only [List.setIfInBounds_toArray, List.set_cons_zero, List.set_cons_succ]
  refine lx_skip 9 (by kernel_rfl) (fun _ _ d _ _ h => by cases d <;> exact h) (by kernel_rfl) HS0 rfl rfl rfl ?_
  simp only [List.setIfInBounds_toArray, List.set_cons_zero, List.set_cons_succ]
  refine lx_skip 10 (by kernel_rfl) (fun _ _ d _ _ h => by cases d <;> exact h) (by kernel_rfl) HS0 rfl rfl rfl ?_
  simp only [List.setIfInBounds_toArray, List.set_cons_zero, List.set_cons_succ]
  refine lx_skip 11 (by kernel_rfl) (fun _ _ d _ _ h => by cases d <;> exact h) (by kernel_rfl) HS0 rfl rfl rfl ?_
  simp only [List.setIfInBounds_toArray, List.set_cons_zero, List.set_cons_succ]
  refine lx_skip 12 (by kernel_rfl) (fun _ _ d _ _ h => by cases d <;> exact h) (by kernel_rfl) HS0 rfl rfl rfl ?_
  simp only [List.setIfInBounds_toArray, List.set_cons_zero, List.set_cons_succ]
  refine lx_skip 13 (by kernel_rfl) (fun _ _ d _ _ h => by cases d <;> exact h) (by kernel_rfl) HS0 rfl rfl rfl ?_
  simp only [List.setIfInBounds_toArray, List.set_cons_zero, List.set_cons_succ]
  refine lx_skip 14 (by kernel_rfl) (fun _ _ d _ _ h => by cases d <;> exact h) (by kernel_rfl) HS0 rfl rfl rfl ?_
  simp only [List.setIfInBounds_toArray, List.set_cons_zero, List.set_cons_succ]
  refine lx_skip 15 (by kernel_rfl) (fun _ _ d _ _ h => by cases d <;> exact h) (by kernel_rfl) HS0 rfl rfl rfl ?_
  simp only [List.setIfInBounds_toArray, List.set_cons_zero, List.set_cons_succ]
  refine lx_skip 16 (by kernel_rfl) (fun _ _ d _ _ h => by cases d <;> exact h) (by kernel_rfl) HS0 rfl rfl rfl ?_
  simp only [List.setIfInBounds_toArray, List.set_cons_zero, List.set_cons_succ]
  refine lx_skip 17 (by kernel_rfl) (fun _ _ d _ _ h => by cases d <;> exact h) (by kernel_rfl) HS0 rfl rfl rfl ?_
  simp only [List.setIfInBounds_toArray, List.set_cons_zero, List.set_cons_succ]
  refine lx_skip 18 (by kernel_rfl) (fun _ _ d _ _ h => by cases d <;> exact h) (by kernel_rfl) HS0 rfl rfl rfl ?_
  simp only [List.setIfInBounds_toArray, List.set_cons_zero, List.set_cons_succ]
  refine lx_skip 19 (by kernel_rfl) (fun _ _ d _ _ h => by cases d <;> exact h) (by kernel_rfl) HS0 rfl rfl rfl ?_
  simp only [List.setIfInBounds_toArray, List.set_cons_zero, List.set_cons_succ]
  refine lx_skip 20 (by kernel_rfl) (fun _ _ d _ _ h => by cases d <;> exact h) (by kernel_rfl) HS0 rfl rfl rfl ?_
  simp only [List.setIfInBounds_toArray, List.set_cons_zero, List.set_cons_succ]
  refine lx_skip 21 (by kernel_rfl) (fun _ _ d _ _ h => by cases d <;> exact h) (by kernel_rfl) HS0 rfl rfl rfl ?_
  simp only [List.setIfInBounds_toArray, List.set_cons_zero, List.set_cons_succ]
  refine lx_skip 22 (by kernel_rfl) (fun _ _ d _ _ h => by cases d <;> exact h) (by kernel_rfl) HS0 rfl rfl rfl ?_
  simp only [List.setIfInBounds_toArray, List.set_cons_zero, List.set_cons_succ]
  refine lx_skip 23 (by kernel_rfl) (fun _ _ d _ _ h => by cases d <;> exact h) (by kernel_rfl) HS0 rfl rfl rfl ?_
  simp only [List.setIfInBounds_toArray, List.set_cons_zero, List.set_cons_succ]
  refine lx_rd 24 (.bool true) (by kernel_rfl) (fun _ _ d _ _ h => by cases d <;> exact h) (by kernel_rfl) HS0 rfl rfl rfl (fun w' hS => ?hE24) ?_
  case hE24 => first | (go_simp; rfl) | go_simp
  simp only [List.setIfInBounds_toArray, List.set_cons_zero, List.set_cons_succ]
  refine lx_nil (by kernel_rfl) ?_
  clear HS0 cH
  go_wp2
  go_ret
  exact ⟨rfl, Lq.ofBelow ⟨mb, m, HH.out⟩ HB2.out.1⟩
set_option maxHeartbeats 1600000 in
theorem set_4 (s : By) (a : Option Addr) (n c : Nat) (ts : List By) (w : World) (F : Nat → Prop) (q mb : Nat) (m : By → Option Rw) (P : Pl) (h : LsM w F q mb m P) (hs : s.length ≤ 1000000) (hR : TRd w a n c ts) (hn : n ≤ 100000) (hts : ∀ t ∈ ts, t.length ≤ 2000000) (hk : P.ks.length < 900000) (hT : Lib.Utf8Tabs 0 1 w) (h0 : nameE s = 0) (h1 : (readR ts).2 = 0) (hd1 : Hid (decide (P.ru < (n : Int)) = false)) (hh : (P.m s).isSome = true) :
    Calls Tryd.prog 15 #[.pointer (some ⟨q, 0, none⟩), .string (ba s), .slice a n c] w fun e w' => e = .returned (.int .i64 0) ∧ Lq w F q (putP P s (readR ts).1) w' := by
  have cN := checkName_any (ba s) w (by rw [ba_size]; omega) hT
  rw [ba_list] at cN
  have HH : Hid (LsM w F q mb m P) := h
  have hlen : ts.length = n := hR.len
  rw [h0] at cN
  have cR2 : Hid (∀ w1, Below w.heap.size w w1 → Calls Tryd.prog 28 #[.slice a n c] w1 (fun e w2 => ∃ fa fc, e = .returned (.tuple #[.slice (fa.map fun g => ⟨g, 0, none⟩) n fc, .int .i64 0]) ∧ Hid (RRd w2 (fa, n, fc) (readR ts).1 ∧ (∀ g, fa = some g → w1.heap.size ≤ g) ∧ Below w1.heap.size w1 w2))) := fun w1 hb => (read_any a n c ts w1 (hR.below hb) hn hts (tabs_bel hT hb)).mono (fun e w2 hh => by
    obtain ⟨hA, hB⟩ := hh
    rcases hA with ⟨_, v, rfl, ho⟩ | ⟨hne, _⟩
    · obtain ⟨⟨fa, fn, fc⟩, rfl, hf, hfn, hfb⟩ := RRd.ofOwn ho
      have : fn = n := by rw [← hlen]; exact hfn
      subst this
      exact ⟨fa, fc, rfl, hf, fun g hg => (hfb g hg).1, hB⟩
    · exact absurd h1 hne)
  have HL : Hid (P.ks.length < 900000 ∧ s.length ≤ 1000000) := ⟨hk, hs⟩
  have cH : Hid (∀ w1, LsM w1 F q mb m P → Calls Tryd.prog 29 #[.pointer (some ⟨q, 0, none⟩), .string (ba s)] w1 fun e w' => e = .returned (.bool (P.m s).isSome) ∧ w' = w1) := fun w1 k => has_any s w1 F q mb m P k hs
  generalize (readR ts).1 = rs at *
  clear hR hn hts hk hT h hlen hs h0 h1
  go_enter Tryd.func15, Tryd.ntmps15
  go_upto_region 7 with (first
    | (go_at_call 27; refine cN.mono ?_; clear cN; rintro e w1 ⟨rfl, hb1⟩; have cR := cR2.out w1 hb1; clear cR2)
    | (go_at_call 28; refine cR.mono ?_; clear cR; rintro e w2 ⟨fa, fc, rfl, hf⟩))
  have HB2 : Hid (Below w.heap.size w w2.drew ∧ RRd w2.drew (fa, n, fc) rs ∧ ∀ g, fa = some g → w.heap.size ≤ g) := ⟨(hb1.trans (hf.out.2.2.mono hb1.size)).drew, hf.out.1.keep (S := fun _ => False) (Keep.refl _ _).drew (fun _ _ h => h), fun g hg => Nat.le_trans hb1.size (hf.out.2.1 g hg)⟩
  have HS0 : LsM w2.drew F q mb m P := HH.out.below HB2.out.1
  clear hf hb1
  refine wp_region_lx (fun w' => LsM w' F q mb m P) [] 25 (by kernel_rfl) (by kernel_rfl) ?_
  generalize hfa : (fa.map fun g => (⟨g, 0, none⟩ : Addr)) = fA
  replace hfa : Hid _ := hfa
  generalize w2.drew = X at HB2 HS0 ⊢
  obtain ⟨len, HLn⟩ : ∃ len, Hid (P.ks.length = len) := ⟨_, rfl⟩
  rw [hh] at cH
  refine lx_rd 0 ?vA0 (by kernel_rfl) (fun _ _ d _ _ h => by cases d <;> exact h) (by kernel_rfl) HS0 rfl rfl rfl (fun w' hS => ?hA0) ?_
  case hA0 => first | (go_simp; rfl) | go_simp
  simp only [List.setIfInBounds_toArray, List.set_cons_zero, List.set_cons_succ]
  refine lx_rd 1 (.int .i64 n) (by kernel_rfl) (fun _ _ d _ _ h => by cases d <;> exact h) (by kernel_rfl) HS0 rfl rfl rfl (fun w' hS => ?hA1) ?_
  case hA1 => first | (go_simp; rfl) | go_simp
  simp only [List.setIfInBounds_toArray, List.set_cons_zero, List.set_cons_succ]
  refine lx_rd 2 (.pointer (some ⟨q, 0, none⟩)) (by kernel_rfl) (fun _ _ d _ _ h => by cases d <;> exact h) (by kernel_rfl) HS0 rfl rfl rfl (fun w' hS => ?hA2) ?_
  case hA2 => first | (go_simp; rfl) | go_simp
  simp only [List.setIfInBounds_toArray, List.set_cons_zero, List.set_cons_succ]
  refine lx_rd 3 (.pointer (some ⟨q, 0, none⟩)) (by kernel_rfl) (fun _ _ d _ _ h => by cases d <;> exact h) (by kernel_rfl) HS0 rfl rfl rfl (fun w' hS => ?hA3) ?_
  case hA3 => first | (go_simp; rfl) | go_simp
  simp only [List.setIfInBounds_toArray, List.set_cons_zero, List.set_cons_succ]
  refine lx_rd 4 (.pointer (some ⟨q, 1, none⟩)) (by kernel_rfl) (fun _ _ d _ _ h => by cases d <;> exact h) (by kernel_rfl) HS0 rfl rfl rfl (fun w' hS => ?hA4) ?_
  case hA4 => first | (go_simp; rfl) | go_simp
  simp only [List.setIfInBounds_toArray, List.set_cons_zero, List.set_cons_succ]
  refine lx_rd 5 (.int .i64 P.ru) (by kernel_rfl) (fun _ _ d _ _ h => by cases d <;> exact h) (by kernel_rfl) HS0 rfl rfl rfl (fun w' hS => ?hA5) ?_
  case hA5 => have q0 := hS.c1; first | (go_simp; rfl) | go_simp
  simp only [List.setIfInBounds_toArray, List.set_cons_zero, List.set_cons_succ]
  refine lx_rd 6 (.bool false) (by kernel_rfl) (fun _ _ d _ _ h => by cases d <;> exact h) (by kernel_rfl) HS0 rfl rfl rfl (fun w' hS => ?hA6) ?_
  case hA6 => have q1 := hd1.out; first | (go_simp; rfl) | go_simp
  simp only [List.setIfInBounds_toArray, List.set_cons_zero, List.set_cons_succ]
  refine lx_rd 7 (.bool false) (by kernel_rfl) (fun _ _ d _ _ h => by cases d <;> exact h) (by kernel_rfl) HS0 rfl rfl rfl (fun w' hS => ?hA7) ?_
  case hA7 => first | (go_simp; rfl) | go_simp
  simp only [List.setIfInBounds_toArray, List.set_cons_zero, List.set_cons_succ]
  refine lx_rd 8 ?vB8 (by kernel_rfl) (fun _ _ d _ _ h => by cases d <;> exact h) (by kernel_rfl) HS0 rfl rfl rfl (fun w' hS => ?hB8) ?_
  case hB8 => first | (go_simp; rfl) | go_simp
  simp only [List.setIfInBounds_toArray, List.set_cons_zero, List.set_cons_succ]
  refine lx_rd 9 ?vB9 (by kernel_rfl) (fun _ _ d _ _ h => by cases d <;> exact h) (by kernel_rfl) HS0 rfl rfl rfl (fun w' hS => ?hB9) ?_
  case hB9 => first | (go_simp; rfl) | go_simp
  simp only [List.setIfInBounds_toArray, List.set_cons_zero, List.set_cons_succ]
  refine lx_one 10 (by kernel_rfl) (stepT_call 29 ?ac rfl rfl rfl ?rc ?_)
  case rc => first | (go_simp; rfl) | go_simp
  refine (cH.out X HS0).mono ?_
  rintro e w3 ⟨rfl, hw3⟩
  replace hw3 := hw3.symm
  subst hw3
  refine ⟨_, rfl, fun _ => HS0, ?_⟩
  simp only [lxa, lxb, lxc]
  refine lx_rd 11 (.bool false) (by kernel_rfl) (fun _ _ d _ _ h => by cases d <;> exact h) (by kernel_rfl) HS0 rfl rfl rfl (fun w' hS => ?hF11) ?_
  case hF11 => first | (go_simp; rfl) | go_simp
  simp only [List.setIfInBounds_toArray, List.set_cons_zero, List.set_cons_succ]
  refine lx_rd 12 (.bool false) (by kernel_rfl) (fun _ _ d _ _ h => by cases d <;> exact h) (by kernel_rfl) HS0 rfl rfl rfl (fun w' hS => ?hF12) ?_
  case hF12 => first | (go_simp; rfl) | go_simp
  simp only [List.setIfInBounds_toArray, List.set_cons_zero, List.set_cons_succ]
  refine lx_skip 13 (by kernel_rfl) (fun _ _ d _ _ h => by cases d <;> exact h) (by kernel_rfl) HS0 rfl rfl rfl ?_
  simp only [List.setIfInBounds_toArray, List.set_cons_zero, List.set_cons_succ]
  refine lx_skip 14 (by kernel_rfl) (fun _ _ d _ _ h => by cases d <;> exact h) (by kernel_rfl) HS0 rfl rfl rfl ?_
  simp only [List.setIfInBounds_toArray, List.set_cons_zero, List.set_cons_succ]
  refine lx_skip 15 (by kernel_rfl) (fun _ _ d _ _ h => by cases d <;> exact h) (by kernel_rfl) HS0 rfl rfl rfl ?_
  simp only [List.setIfInBounds_toArray, List.set_cons_zero, List.set_cons_succ]
  refine lx_skip 16 (by kernel_rfl) (fun _ _ d _ _ h => by cases d <;> exact h) (by kernel_rfl) HS0 rfl rfl rfl ?_
  simp only [List.setIfInBounds_toArray, List.set_cons_zero, List.set_cons_succ]
  refine lx_skip 17 (by kernel_rfl) (fun _ _ d _ _ h => by cases d <;> exact h) (by kernel_rfl) HS0 rfl rfl rfl ?_
  simp only [List.setIfInBounds_toArray, List.set_cons_zero, List.set_cons_succ]
  refine lx_skip 18 (by kernel_rfl) (fun _ _ d _ _ h => by cases d <;> exact h) (by kernel_rfl) HS0 rfl rfl rfl ?_
  simp only [List.setIfInBounds_toArray, List.set_cons_zero, List.set_cons_succ]
  refine lx_skip 19 (by kernel_rfl) (fun _ _ d _ _ h => by cases d <;> exact h) (by kernel_rfl) HS0 rfl rfl rfl ?_
  simp only [List.setIfInBounds_toArray, List.set_cons_zero, List.set_cons_succ]
  refine lx_skip 20 (by kernel_rfl) (fun _ _ d _ _ h => by cases d <;> exact h) (by kernel_rfl) HS0 rfl rfl rfl ?_
  simp only [List.setIfInBounds_toArray, List.set_cons_zero, List.set_cons_succ]
  refine lx_skip 21 (by kernel_rfl) (fun _ _ d _ _ h => by cases d <;> exact h) (by kernel_rfl) HS0 rfl rfl rfl ?_
  simp only [List.setIfInBounds_toArray, List.set_cons_zero, List.set_cons_succ]
  refine lx_skip 22 (by kernel_rfl) (fun _ _ d _ _ h => by cases d <;> exact h) (by kernel_rfl) HS0 rfl rfl rfl ?_
  simp only [List.setIfInBounds_toArray, List.set_cons_zero, List.set_cons_succ]
  refine lx_rd 23 (.bool false) (by kernel_rfl) (fun _ _ d _ _ h => by cases d <;> exact h) (by kernel_rfl) HS0 rfl rfl rfl (fun w' hS => ?hH23) ?_
  case hH23 => first | (go_simp; rfl) | go_simp
  simp only [List.setIfInBounds_toArray, List.set_cons_zero, List.set_cons_succ]
  refine lx_rd 24 (.bool false) (by kernel_rfl) (fun _ _ d _ _ h => by cases d <;> exact h) (by kernel_rfl) HS0 rfl rfl rfl (fun w' hS => ?hH24) ?_
  case hH24 => first | (go_simp; rfl) | go_simp
  simp only [List.setIfInBounds_toArray, List.set_cons_zero, List.set_cons_succ]
  refine lx_nil (by kernel_rfl) ?_
  go_upto_region 9 with fail
  have HB3 : Hid (Below w.heap.size w X.drew ∧ RRd X.drew (fa, n, fc) rs ∧ ∀ g, fa = some g → w.heap.size ≤ g) := ⟨HB2.out.1.drew, HB2.out.2.1.keep (S := fun _ => False) (Keep.refl _ _).drew (fun _ _ h => h), HB2.out.2.2⟩
  have HS1 : LsM X.drew F q mb m P := HS0.keep (S := fun _ => False) (Keep.refl _ _).drew (fun _ _ h => h)
  clear HS0 HB2 cH
  refine wp_region_lx (fun w' => LsM w' F q mb m P) [7] 8 (by kernel_rfl) (by kernel_rfl) ?_
  generalize X.drew = Y at HB3 HS1 ⊢
  refine lx_rd 0 (.pointer (some ⟨q, 0, none⟩)) (by kernel_rfl) (fun _ _ d _ _ h => by cases d <;> exact h) (by kernel_rfl) HS1 rfl rfl rfl (fun w' hS => ?hD0) ?_
  case hD0 => first | (go_simp; rfl) | go_simp
  simp only [List.setIfInBounds_toArray, List.set_cons_zero, List.set_cons_succ]
  refine lx_rd 1 (.pointer (some ⟨q, 0, none⟩)) (by kernel_rfl) (fun _ _ d _ _ h => by cases d <;> exact h) (by kernel_rfl) HS1 rfl rfl rfl (fun w' hS => ?hD1) ?_
  case hD1 => first | (go_simp; rfl) | go_simp
  simp only [List.setIfInBounds_toArray, List.set_cons_zero, List.set_cons_succ]
  refine lx_rd 2 (.pointer (some ⟨q, 3, none⟩)) (by kernel_rfl) (fun _ _ d _ _ h => by cases d <;> exact h) (by kernel_rfl) HS1 rfl rfl rfl (fun w' hS => ?hD2) ?_
  case hD2 => first | (go_simp; rfl) | go_simp
  simp only [List.setIfInBounds_toArray, List.set_cons_zero, List.set_cons_succ]
  refine lx_rd 3 (.map (some mb)) (by kernel_rfl) (fun _ _ d _ _ h => by cases d <;> exact h) (by kernel_rfl) HS1 rfl rfl rfl (fun w' hS => ?hD3) ?_
  case hD3 => have q0 := hS.c3; first | (go_simp; rfl) | go_simp
  simp only [List.setIfInBounds_toArray, List.set_cons_zero, List.set_cons_succ]
  refine lx_rd 4 (.string (ba s)) (by kernel_rfl) (fun _ _ d _ _ h => by cases d <;> exact h) (by kernel_rfl) HS1 rfl rfl rfl (fun w' hS => ?hD4) ?_
  case hD4 => first | (go_simp; rfl) | go_simp
  simp only [List.setIfInBounds_toArray, List.set_cons_zero, List.set_cons_succ]
  refine lx_rd 6 ?vD6 (by kernel_rfl) (fun _ _ d _ _ h => by cases d <;> exact h) (by kernel_rfl) HS1 rfl rfl rfl (fun w' hS => ?hD6) ?_
  case hD6 => first | (go_simp; rfl) | go_simp
  simp only [List.setIfInBounds_toArray, List.set_cons_zero, List.set_cons_succ]
  refine lx_one 5 (by kernel_rfl) (stepT_call 30 ?ad rfl rfl rfl ?rd ?_)
  case rd => first | (go_simp; rfl) | go_simp
  refine (clone_any (ba s) Y (by rw [ba_size]; have := HL.out.2; omega)).mono ?_
  rintro e w4 ⟨rfl, hb4⟩
  refine ⟨_, rfl, fun _ => HS1.below hb4, ?_⟩
  simp only [lxa, lxb, lxc]
  have hm4 := (HS1.below hb4).map
  obtain ⟨w5, hr5, hm5, hk5⟩ := hm4.store (by have := HL.out.1; omega) s (by have := HL.out.2; unfold maxLen; omega) (fa, n, fc)
  refine lx_one 7 (by kernel_rfl) (stepT_store (w' := w5) rfl rfl rfl ?cd (fun h => by cases h) ?_)
  case cd => exact exec_mapput (.tmp 51) (.tmp 53) (.tmp 54) rfl mb rfl (ba s) rfl (rsl (fa, n, fc)) (by rw [show rsl (fa, n, fc) = .slice fA n fc from by unfold rsl; rw [hfa.out]]; rfl) hr5
  refine lx_nil (by kernel_rfl) ?_
  have HQ : Hid (Lq w F q (putP P s rs) w5) := HH.out.put (w1 := w4) (HB3.out.1.trans (hb4.mono HB3.out.1.size)) s (fa, n, fc) rs (HB3.out.2.1.below hb4) HB3.out.2.2 hm5 hk5
  clear HS1 hm4 hm5 hk5 hr5 HB3 hb4
  go_wp2
  go_ret
  exact ⟨rfl, HQ.out⟩
set_option maxHeartbeats 1600000 in
theorem set_5 (s : By) (a : Option Addr) (n c : Nat) (ts : List By) (w : World) (F : Nat → Prop) (q mb : Nat) (m : By → Option Rw) (P : Pl) (h : LsM w F q mb m P) (hs : s.length ≤ 1000000) (hR : TRd w a n c ts) (hn : n ≤ 100000) (hts : ∀ t ∈ ts, t.length ≤ 2000000) (hk : P.ks.length < 900000) (hT : Lib.Utf8Tabs 0 1 w) (h0 : nameE s = 0) (h1 : (readR ts).2 = 0) (hd1 : Hid (decide (P.ru < (n : Int)) = false)) (hh : (P.m s).isSome = false) (hd2 : Hid (decide (P.li ≤ (P.ks.length : Int)) = true)) :
    Calls Tryd.prog 15 #[.pointer (some ⟨q, 0, none⟩), .string (ba s), .slice a n c] w fun e w' => e = .returned (.int .i64 8) ∧ Lq w F q P w' := by
  have cN := checkName_any (ba s) w (by rw [ba_size]; omega) hT
  rw [ba_list] at cN
  have HH : Hid (LsM w F q mb m P) := h
  have hlen : ts.length = n := hR.len
  rw [h0] at cN
  have cR2 : Hid (∀ w1, Below w.heap.size w w1 → Calls Tryd.prog 28 #[.slice a n c] w1 (fun e w2 => ∃ fa fc, e = .returned (.tuple #[.slice (fa.map fun g => ⟨g, 0, none⟩) n fc, .int .i64 0]) ∧ Hid (RRd w2 (fa, n, fc) (readR ts).1 ∧ (∀ g, fa = some g → w1.heap.size ≤ g) ∧ Below w1.heap.size w1 w2))) := fun w1 hb => (read_any a n c ts w1 (hR.below hb) hn hts (tabs_bel hT hb)).mono (fun e w2 hh => by
    obtain ⟨hA, hB⟩ := hh
    rcases hA with ⟨_, v, rfl, ho⟩ | ⟨hne, _⟩
    · obtain ⟨⟨fa, fn, fc⟩, rfl, hf, hfn, hfb⟩ := RRd.ofOwn ho
      have : fn = n := by rw [← hlen]; exact hfn
      subst this
      exact ⟨fa, fc, rfl, hf, fun g hg => (hfb g hg).1, hB⟩
    · exact absurd h1 hne)
  have HL : Hid (P.ks.length < 900000 ∧ s.length ≤ 1000000) := ⟨hk, hs⟩
  have cH : Hid (∀ w1, LsM w1 F q mb m P → Calls Tryd.prog 29 #[.pointer (some ⟨q, 0, none⟩), .string (ba s)] w1 fun e w' => e = .returned (.bool (P.m s).isSome) ∧ w' = w1) := fun w1 k => has_any s w1 F q mb m P k hs
  generalize (readR ts).1 = rs at *
  clear hR hn hts hk hT h hlen hs h0 h1
  go_enter Tryd.func15, Tryd.ntmps15
  go_upto_region 7 with (first
    | (go_at_call 27; refine cN.mono ?_; clear cN; rintro e w1 ⟨rfl, hb1⟩; have cR := cR2.out w1 hb1; clear cR2)
    | (go_at_call 28; refine cR.mono ?_; clear cR; rintro e w2 ⟨fa, fc, rfl, hf⟩))
  have HB2 : Hid (Below w.heap.size w w2.drew ∧ RRd w2.drew (fa, n, fc) rs ∧ ∀ g, fa = some g → w.heap.size ≤ g) := ⟨(hb1.trans (hf.out.2.2.mono hb1.size)).drew, hf.out.1.keep (S := fun _ => False) (Keep.refl _ _).drew (fun _ _ h => h), fun g hg => Nat.le_trans hb1.size (hf.out.2.1 g hg)⟩
  have HS0 : LsM w2.drew F q mb m P := HH.out.below HB2.out.1
  clear hf hb1
  refine wp_region_lx (fun w' => LsM w' F q mb m P) [] 25 (by kernel_rfl) (by kernel_rfl) ?_
  generalize hfa : (fa.map fun g => (⟨g, 0, none⟩ : Addr)) = fA
  replace hfa : Hid _ := hfa
  generalize w2.drew = X at HB2 HS0 ⊢
  obtain ⟨len, HLn⟩ : ∃ len, Hid (P.ks.length = len) := ⟨_, rfl⟩
  rw [HLn.out] at hd2
  rw [hh] at cH
  refine lx_rd 0 ?vA0 (by kernel_rfl) (fun _ _ d _ _ h => by cases d <;> exact h) (by kernel_rfl) HS0 rfl rfl rfl (fun w' hS => ?hA0) ?_
  case hA0 => first | (go_simp; rfl) | go_simp
  simp only [List.setIfInBounds_toArray, List.set_cons_zero, List.set_cons_succ]
  refine lx_rd 1 (.int .i64 n) (by kernel_rfl) (fun _ _ d _ _ h => by cases d <;> exact h) (by kernel_rfl) HS0 rfl rfl rfl (fun w' hS => ?hA1) ?_
  case hA1 => first | (go_simp; rfl) | go_simp
  simp only [List.setIfInBounds_toArray, List.set_cons_zero, List.set_cons_succ]
  refine lx_rd 2 (.pointer (some ⟨q, 0, none⟩)) (by kernel_rfl) (fun _ _ d _ _ h => by cases d <;> exact h) (by kernel_rfl) HS0 rfl rfl rfl (fun w' hS => ?hA2) ?_
  case hA2 => first | (go_simp; rfl) | go_simp
  simp only [List.setIfInBounds_toArray, List.set_cons_zero, List.set_cons_succ]
  refine lx_rd 3 (.pointer (some ⟨q, 0, none⟩)) (by kernel_rfl) (fun _ _ d _ _ h => by cases d <;> exact h) (by kernel_rfl) HS0 rfl rfl rfl (fun w' hS => ?hA3) ?_
  case hA3 => first | (go_simp; rfl) | go_simp
  simp only [List.setIfInBounds_toArray, List.set_cons_zero, List.set_cons_succ]
  refine lx_rd 4 (.pointer (some ⟨q, 1, none⟩)) (by kernel_rfl) (fun _ _ d _ _ h => by cases d <;> exact h) (by kernel_rfl) HS0 rfl rfl rfl (fun w' hS => ?hA4) ?_
  case hA4 => first | (go_simp; rfl) | go_simp
  simp only [List.setIfInBounds_toArray, List.set_cons_zero, List.set_cons_succ]
  refine lx_rd 5 (.int .i64 P.ru) (by kernel_rfl) (fun _ _ d _ _ h => by cases d <;> exact h) (by kernel_rfl) HS0 rfl rfl rfl (fun w' hS => ?hA5) ?_
  case hA5 => have q0 := hS.c1; first | (go_simp; rfl) | go_simp
  simp only [List.setIfInBounds_toArray, List.set_cons_zero, List.set_cons_succ]
  refine lx_rd 6 (.bool false) (by kernel_rfl) (fun _ _ d _ _ h => by cases d <;> exact h) (by kernel_rfl) HS0 rfl rfl rfl (fun w' hS => ?hA6) ?_
  case hA6 => have q1 := hd1.out; first | (go_simp; rfl) | go_simp
  simp only [List.setIfInBounds_toArray, List.set_cons_zero, List.set_cons_succ]
  refine lx_rd 7 (.bool false) (by kernel_rfl) (fun _ _ d _ _ h => by cases d <;> exact h) (by kernel_rfl) HS0 rfl rfl rfl (fun w' hS => ?hA7) ?_
  case hA7 => first | (go_simp; rfl) | go_simp
  simp only [List.setIfInBounds_toArray, List.set_cons_zero, List.set_cons_succ]
  refine lx_rd 8 ?vB8 (by kernel_rfl) (fun _ _ d _ _ h => by cases d <;> exact h) (by kernel_rfl) HS0 rfl rfl rfl (fun w' hS => ?hB8) ?_
  case hB8 => first | (go_simp; rfl) | go_simp
  simp only [List.setIfInBounds_toArray, List.set_cons_zero, List.set_cons_succ]
  refine lx_rd 9 ?vB9 (by kernel_rfl) (fun _ _ d _ _ h => by cases d <;> exact h) (by kernel_rfl) HS0 rfl rfl rfl (fun w' hS => ?hB9) ?_
  case hB9 => first | (go_simp; rfl) | go_simp
  simp only [List.setIfInBounds_toArray, List.set_cons_zero, List.set_cons_succ]
  refine lx_one 10 (by kernel_rfl) (stepT_call 29 ?ac rfl rfl rfl ?rc ?_)
  case rc => first | (go_simp; rfl) | go_simp
  refine (cH.out X HS0).mono ?_
  rintro e w3 ⟨rfl, hw3⟩
  replace hw3 := hw3.symm
  subst hw3
  refine ⟨_, rfl, fun _ => HS0, ?_⟩
  simp only [lxa, lxb, lxc]
  refine lx_rd 11 (.bool true) (by kernel_rfl) (fun _ _ d _ _ h => by cases d <;> exact h) (by kernel_rfl) HS0 rfl rfl rfl (fun w' hS => ?hF11) ?_
  case hF11 => first | (go_simp; rfl) | go_simp
  simp only [List.setIfInBounds_toArray, List.set_cons_zero, List.set_cons_succ]
  refine lx_rd 12 (.bool true) (by kernel_rfl) (fun _ _ d _ _ h => by cases d <;> exact h) (by kernel_rfl) HS0 rfl rfl rfl (fun w' hS => ?hF12) ?_
  case hF12 => first | (go_simp; rfl) | go_simp
  simp only [List.setIfInBounds_toArray, List.set_cons_zero, List.set_cons_succ]
  refine lx_rd 13 (.pointer (some ⟨q, 0, none⟩)) (by kernel_rfl) (fun _ _ d _ _ h => by cases d <;> exact h) (by kernel_rfl) HS0 rfl rfl rfl (fun w' hS => ?hC13) ?_
  case hC13 => first | (go_simp; rfl) | go_simp
  simp only [List.setIfInBounds_toArray, List.set_cons_zero, List.set_cons_succ]
  refine lx_rd 14 (.pointer (some ⟨q, 0, none⟩)) (by kernel_rfl) (fun _ _ d _ _ h => by cases d <;> exact h) (by kernel_rfl) HS0 rfl rfl rfl (fun w' hS => ?hC14) ?_
  case hC14 => first | (go_simp; rfl) | go_simp
  simp only [List.setIfInBounds_toArray, List.set_cons_zero, List.set_cons_succ]
  refine lx_rd 15 (.pointer (some ⟨q, 3, none⟩)) (by kernel_rfl) (fun _ _ d _ _ h => by cases d <;> exact h) (by kernel_rfl) HS0 rfl rfl rfl (fun w' hS => ?hC15) ?_
  case hC15 => first | (go_simp; rfl) | go_simp
  simp only [List.setIfInBounds_toArray, List.set_cons_zero, List.set_cons_succ]
  refine lx_rd 16 (.map (some mb)) (by kernel_rfl) (fun _ _ d _ _ h => by cases d <;> exact h) (by kernel_rfl) HS0 rfl rfl rfl (fun w' hS => ?hC16) ?_
  case hC16 => have q0 := hS.c3; first | (go_simp; rfl) | go_simp
  simp only [List.setIfInBounds_toArray, List.set_cons_zero, List.set_cons_succ]
  refine lx_rd 17 (.int .i64 len) (by kernel_rfl) (fun _ _ d _ _ h => by cases d <;> exact h) (by kernel_rfl) HS0 rfl rfl rfl (fun w' hS => ?hC17) ?_
  case hC17 => have p := fun ty => hS.map.len P.ks hS.nd hS.hmem ty; rw [HLn.out] at p; first | (go_simp; rfl) | go_simp
  simp only [List.setIfInBounds_toArray, List.set_cons_zero, List.set_cons_succ]
  refine lx_rd 18 (.pointer (some ⟨q, 0, none⟩)) (by kernel_rfl) (fun _ _ d _ _ h => by cases d <;> exact h) (by kernel_rfl) HS0 rfl rfl rfl (fun w' hS => ?hC18) ?_
  case hC18 => first | (go_simp; rfl) | go_simp
  simp only [List.setIfInBounds_toArray, List.set_cons_zero, List.set_cons_succ]
  refine lx_rd 19 (.pointer (some ⟨q, 0, none⟩)) (by kernel_rfl) (fun _ _ d _ _ h => by cases d <;> exact h) (by kernel_rfl) HS0 rfl rfl rfl (fun w' hS => ?hC19) ?_
  case hC19 => first | (go_simp; rfl) | go_simp
  simp only [List.setIfInBounds_toArray, List.set_cons_zero, List.set_cons_succ]
  refine lx_rd 20 (.pointer (some ⟨q, 0, none⟩)) (by kernel_rfl) (fun _ _ d _ _ h => by cases d <;> exact h) (by kernel_rfl) HS0 rfl rfl rfl (fun w' hS => ?hC20) ?_
  case hC20 => first | (go_simp; rfl) | go_simp
  simp only [List.setIfInBounds_toArray, List.set_cons_zero, List.set_cons_succ]
  refine lx_rd 21 (.int .i64 P.li) (by kernel_rfl) (fun _ _ d _ _ h => by cases d <;> exact h) (by kernel_rfl) HS0 rfl rfl rfl (fun w' hS => ?hC21) ?_
  case hC21 => have q0 := hS.c0; first | (go_simp; rfl) | go_simp
  simp only [List.setIfInBounds_toArray, List.set_cons_zero, List.set_cons_succ]
  refine lx_rd 22 (.bool true) (by kernel_rfl) (fun _ _ d _ _ h => by cases d <;> exact h) (by kernel_rfl) HS0 rfl rfl rfl (fun w' hS => ?hC22) ?_
  case hC22 => have q1 := hd2.out; first | (go_simp; rfl) | go_simp
  simp only [List.setIfInBounds_toArray, List.set_cons_zero, List.set_cons_succ]
  refine lx_rd 23 (.bool true) (by kernel_rfl) (fun _ _ d _ _ h => by cases d <;> exact h) (by kernel_rfl) HS0 rfl rfl rfl (fun w' hS => ?hC23) ?_
  case hC23 => first | (go_simp; rfl) | go_simp
  simp only [List.setIfInBounds_toArray, List.set_cons_zero, List.set_cons_succ]
  refine lx_rd 24 (.bool true) (by kernel_rfl) (fun _ _ d _ _ h => by cases d <;> exact h) (by kernel_rfl) HS0 rfl rfl rfl (fun w' hS => ?hC24) ?_
  case hC24 => first | (go_simp; rfl) | go_simp
  simp only [List.setIfInBounds_toArray, List.set_cons_zero, List.set_cons_succ]
  refine lx_nil (by kernel_rfl) ?_
  clear HS0 cH
  go_wp2
  go_ret
  exact ⟨rfl, Lq.ofBelow ⟨mb, m, HH.out⟩ HB2.out.1⟩
set_option maxHeartbeats 1600000 in
theorem set_6 (s : By) (a : Option Addr) (n c : Nat) (ts : List By) (w : World) (F : Nat → Prop) (q mb : Nat) (m : By → Option Rw) (P : Pl) (h : LsM w F q mb m P) (hs : s.length ≤ 1000000) (hR : TRd w a n c ts) (hn : n ≤ 100000) (hts : ∀ t ∈ ts, t.length ≤ 2000000) (hk : P.ks.length < 900000) (hT : Lib.Utf8Tabs 0 1 w) (h0 : nameE s = 0) (h1 : (readR ts).2 = 0) (hd1 : Hid (decide (P.ru < (n : Int)) = false)) (hh : (P.m s).isSome = false) (hd2 : Hid (decide (P.li ≤ (P.ks.length : Int)) = false)) :
    Calls Tryd.prog 15 #[.pointer (some ⟨q, 0, none⟩), .string (ba s), .slice a n c] w fun e w' => e = .returned (.int .i64 0) ∧ Lq w F q (putP P s (readR ts).1) w' := by
  have cN := checkName_any (ba s) w (by rw [ba_size]; omega) hT
  rw [ba_list] at cN
  have HH : Hid (LsM w F q mb m P) := h
  have hlen : ts.length = n := hR.len
  rw [h0] at cN
  have cR2 : Hid (∀ w1, Below w.heap.size w w1 → Calls Tryd.prog 28 #[.slice a n c] w1 (fun e w2 => ∃ fa fc, e = .returned (.tuple #[.slice (fa.map fun g => ⟨g, 0, none⟩) n fc, .int .i64 0]) ∧ Hid (RRd w2 (fa, n, fc) (readR ts).1 ∧ (∀ g, fa = some g → w1.heap.size ≤ g) ∧ Below w1.heap.size w1 w2))) := fun w1 hb => (read_any a n c ts w1 (hR.below hb) hn hts (tabs_bel hT hb)).mono (fun e w2 hh => by
    obtain ⟨hA, hB⟩ := hh
    rcases hA with ⟨_, v, rfl, ho⟩ | ⟨hne, _⟩
    · obtain ⟨⟨fa, fn, fc⟩, rfl, hf, hfn, hfb⟩ := RRd.ofOwn ho
      have : fn = n := by rw [← hlen]; exact hfn
      subst this
      exact ⟨fa, fc, rfl, hf, fun g hg => (hfb g hg).1, hB⟩
    · exact absurd h1 hne)
  have HL : Hid (P.ks.length < 900000 ∧ s.length ≤ 1000000) := ⟨hk, hs⟩
  have cH : Hid (∀ w1, LsM w1 F q mb m P → Calls Tryd.prog 29 #[.pointer (some ⟨q, 0, none⟩), .string (ba s)] w1 fun e w' => e = .returned (.bool (P.m s).isSome) ∧ w' = w1) := fun w1 k => has_any s w1 F q mb m P k hs
  generalize (readR ts).1 = rs at *
  clear hR hn hts hk hT h hlen hs h0 h1
  go_enter Tryd.func15, Tryd.ntmps15
  go_upto_region 7 with (first
    | (go_at_call 27; refine cN.mono ?_; clear cN; rintro e w1 ⟨rfl, hb1⟩; have cR := cR2.out w1 hb1; clear cR2)
    | (go_at_call 28; refine cR.mono ?_; clear cR; rintro e w2 ⟨fa, fc, rfl, hf⟩))
  have HB2 : Hid (Below w.heap.size w w2.drew ∧ RRd w2.drew (fa, n, fc) rs ∧ ∀ g, fa = some g → w.heap.size ≤ g) := ⟨(hb1.trans (hf.out.2.2.mono hb1.size)).drew, hf.out.1.keep (S := fun _ => False) (Keep.refl _ _).drew (fun _ _ h => h), fun g hg => Nat.le_trans hb1.size (hf.out.2.1 g hg)⟩
  have HS0 : LsM w2.drew F q mb m P := HH.out.below HB2.out.1
  clear hf hb1
  refine wp_region_lx (fun w' => LsM w' F q mb m P) [] 25 (by kernel_rfl) (by kernel_rfl) ?_
  generalize hfa : (fa.map fun g => (⟨g, 0, none⟩ : Addr)) = fA
  replace hfa : Hid _ := hfa
  generalize w2.drew = X at HB2 HS0 ⊢
  obtain ⟨len, HLn⟩ : ∃ len, Hid (P.ks.length = len) := ⟨_, rfl⟩
  rw [HLn.out] at hd2
  rw [hh] at cH
  refine lx_rd 0 ?vA0 (by kernel_rfl) (fun _ _ d _ _ h => by cases d <;> exact h) (by kernel_rfl) HS0 rfl rfl rfl (fun w' hS => ?hA0) ?_
  case hA0 => first | (go_simp; rfl) | go_simp
  simp only [List.setIfInBounds_toArray, List.set_cons_zero, List.set_cons_succ]
  refine lx_rd 1 (.int .i64 n) (by kernel_rfl) (fun _ _ d _ _ h => by cases d <;> exact h) (by kernel_rfl) HS0 rfl rfl rfl (fun w' hS => ?hA1) ?_
  case hA1 => first | (go_simp; rfl) | go_simp
  simp only [List.setIfInBounds_toArray, List.set_cons_zero, List.set_cons_succ]
  refine lx_rd 2 (.pointer (some ⟨q, 0, none⟩)) (by kernel_rfl) (fun _ _ d _ _ h => by cases d <;> exact h) (by kernel_rfl) HS0 rfl rfl rfl (fun w' hS => ?hA2) ?_
  case hA2 => first | (go_simp; rfl) | go_simp
  simp only [List.setIfInBounds_toArray, List.set_cons_zero, List.set_cons_succ]
  refine lx_rd 3 (.pointer (some ⟨q, 0, none⟩)) (by kernel_rfl) (fun _ _ d _ _ h => by cases d <;> exact h) (by kernel_rfl) HS0 rfl rfl rfl (fun w' hS => ?hA3) ?_
  case hA3 => first | (go_simp; rfl) | go_simp
  simp only [List.setIfInBounds_toArray, List.set_cons_zero, List.set_cons_succ]
  refine lx_rd 4 (.pointer (some ⟨q, 1, none⟩)) (by kernel_rfl) (fun _ _ d _ _ h => by cases d <;> exact h) (by kernel_rfl) HS0 rfl rfl rfl (fun w' hS => ?hA4) ?_
  case hA4 => first | (go_simp; rfl) | go_simp
  simp only [List.setIfInBounds_toArray, List.set_cons_zero, List.set_cons_succ]
  refine lx_rd 5 (.int .i64 P.ru) (by kernel_rfl) (fun _ _ d _ _ h => by cases d <;> exact h) (by kernel_rfl) HS0 rfl rfl rfl (fun w' hS => ?hA5) ?_
  case hA5 => have q0 := hS.c1; first | (go_simp; rfl) | go_simp
  simp only [List.setIfInBounds_toArray, List.set_cons_zero, List.set_cons_succ]
  refine lx_rd 6 (.bool false) (by kernel_rfl) (fun _ _ d _ _ h => by cases d <;> exact h) (by kernel_rfl) HS0 rfl rfl rfl (fun w' hS => ?hA6) ?_
  case hA6 => have q1 := hd1.out; first | (go_simp; rfl) | go_simp
  simp only [List.setIfInBounds_toArray, List.set_cons_zero, List.set_cons_succ]
  refine lx_rd 7 (.bool false) (by kernel_rfl) (fun _ _ d _ _ h => by cases d <;> exact h) (by kernel_rfl) HS0 rfl rfl rfl (fun w' hS => ?hA7) ?_
  case hA7 => first | (go_simp; rfl) | go_simp
  simp only [List.setIfInBounds_toArray, List.set_cons_zero, List.set_cons_succ]
  refine lx_rd 8 ?vB8 (by kernel_rfl) (fun _ _ d _ _ h => by cases d <;> exact h) (by kernel_rfl) HS0 rfl rfl rfl (fun w' hS => ?hB8) ?_
  case hB8 => first | (go_simp; rfl) | go_simp
  simp only [List.setIfInBounds_toArray, List.set_cons_zero, List.set_cons_succ]
  refine lx_rd 9 ?vB9 (by kernel_rfl) (fun _ _ d _ _ h => by cases d <;> exact h) (by kernel_rfl) HS0 rfl rfl rfl (fun w' hS => ?hB9) ?_
  case hB9 => first | (go_simp; rfl) | go_simp
  simp only [List.setIfInBounds_toArray, List.set_cons_zero, List.set_cons_succ]
  refine lx_one 10 (by kernel_rfl) (stepT_call 29 ?ac rfl rfl rfl ?rc ?_)
  case rc => first | (go_simp; rfl) | go_simp
  refine (cH.out X HS0).mono ?_
  rintro e w3 ⟨rfl, hw3⟩
  replace hw3 := hw3.symm
  subst hw3
  refine ⟨_, rfl, fun _ => HS0, ?_⟩
  simp only [lxa, lxb, lxc]
  refine lx_rd 11 (.bool true) (by kernel_rfl) (fun _ _ d _ _ h => by cases d <;> exact h) (by kernel_rfl) HS0 rfl rfl rfl (fun w' hS => ?hF11) ?_
  case hF11 => first | (go_simp; rfl) | go_simp
  simp only [List.setIfInBounds_toArray, List.set_cons_zero, List.set_cons_succ]
  refine lx_rd 12 (.bool true) (by kernel_rfl) (fun _ _ d _ _ h => by cases d <;> exact h) (by kernel_rfl) HS0 rfl rfl rfl (fun w' hS => ?hF12) ?_
  case hF12 => first | (go_simp; rfl) | go_simp
  simp only [List.setIfInBounds_toArray, List.set_cons_zero, List.set_cons_succ]
  refine lx_rd 13 (.pointer (some ⟨q, 0, none⟩)) (by kernel_rfl) (fun _ _ d _ _ h => by cases d <;> exact h) (by kernel_rfl) HS0 rfl rfl rfl (fun w' hS => ?hC13) ?_
  case hC13 => first | (go_simp; rfl) | go_simp
  simp only [List.setIfInBounds_toArray, List.set_cons_zero, List.set_cons_succ]
  refine lx_rd 14 (.pointer (some ⟨q, 0, none⟩)) (by kernel_rfl) (fun _ _ d _ _ h => by cases d <;> exact h) (by kernel_rfl) HS0 rfl rfl rfl (fun w' hS => ?hC14) ?_
  case hC14 => first | (go_simp; rfl) | go_simp
  simp only [List.setIfInBounds_toArray, List.set_cons_zero, List.set_cons_succ]
  refine lx_rd 15 (.pointer (some ⟨q, 3, none⟩)) (by kernel_rfl) (fun _ _ d _ _ h => by cases d <;> exact h) (by kernel_rfl) HS0 rfl rfl rfl (fun w' hS => ?hC15) ?_
  case hC15 => first | (go_simp; rfl) | go_simp
  simp only [List.setIfInBounds_toArray, List.set_cons_zero, List.set_cons_succ]
  refine lx_rd 16 (.map (some mb)) (by kernel_rfl) (fun _ _ d _ _ h => by cases d <;> exact h) (by kernel_rfl) HS0 rfl rfl rfl (fun w' hS => ?hC16) ?_
  case hC16 => have q0 := hS.c3; first | (go_simp; rfl) | go_simp
  simp only [List.setIfInBounds_toArray, List.set_cons_zero, List.set_cons_succ]
  refine lx_rd 17 (.int .i64 len) (by kernel_rfl) (fun _ _ d _ _ h => by cases d <;> exact h) (by kernel_rfl) HS0 rfl rfl rfl (fun w' hS => ?hC17) ?_
  case hC17 => have p := fun ty => hS.map.len P.ks hS.nd hS.hmem ty; rw [HLn.out] at p; first | (go_simp; rfl) | go_simp
  simp only [List.setIfInBounds_toArray, List.set_cons_zero, List.set_cons_succ]
  refine lx_rd 18 (.pointer (some ⟨q, 0, none⟩)) (by kernel_rfl) (fun _ _ d _ _ h => by cases d <;> exact h) (by kernel_rfl) HS0 rfl rfl rfl (fun w' hS => ?hC18) ?_
  case hC18 => first | (go_simp; rfl) | go_simp
  simp only [List.setIfInBounds_toArray, List.set_cons_zero, List.set_cons_succ]
  refine lx_rd 19 (.pointer (some ⟨q, 0, none⟩)) (by kernel_rfl) (fun _ _ d _ _ h => by cases d <;> exact h) (by kernel_rfl) HS0 rfl rfl rfl (fun w' hS => ?hC19) ?_
  case hC19 => first | (go_simp; rfl) | go_simp
  simp only [List.setIfInBounds_toArray, List.set_cons_zero, List.set_cons_succ]
  refine lx_rd 20 (.pointer (some ⟨q, 0, none⟩)) (by kernel_rfl) (fun _ _ d _ _ h => by cases d <;> exact h) (by kernel_rfl) HS0 rfl rfl rfl (fun w' hS => ?hC20) ?_
  case hC20 => first | (go_simp; rfl) | go_simp
  simp only [List.setIfInBounds_toArray, List.set_cons_zero, List.set_cons_succ]
  refine lx_rd 21 (.int .i64 P.li) (by kernel_rfl) (fun _ _ d _ _ h => by cases d <;> exact h) (by kernel_rfl) HS0 rfl rfl rfl (fun w' hS => ?hC21) ?_
  case hC21 => have q0 := hS.c0; first | (go_simp; rfl) | go_simp
  simp only [List.setIfInBounds_toArray, List.set_cons_zero, List.set_cons_succ]
  refine lx_rd 22 (.bool false) (by kernel_rfl) (fun _ _ d _ _ h => by cases d <;> exact h) (by kernel_rfl) HS0 rfl rfl rfl (fun w' hS => ?hC22) ?_
  case hC22 => have q1 := hd2.out; first | (go_simp; rfl) | go_simp
  simp only [List.setIfInBounds_toArray, List.set_cons_zero, List.set_cons_succ]
  refine lx_rd 23 (.bool false) (by kernel_rfl) (fun _ _ d _ _ h => by cases d <;> exact h) (by kernel_rfl) HS0 rfl rfl rfl (fun w' hS => ?hC23) ?_
  case hC23 => first | (go_simp; rfl) | go_simp
  simp only [List.setIfInBounds_toArray, List.set_cons_zero, List.set_cons_succ]
  refine lx_rd 24 (.bool false) (by kernel_rfl) (fun _ _ d _ _ h => by cases d <;> exact h) (by kernel_rfl) HS0 rfl rfl rfl (fun w' hS => ?hC24) ?_
  case hC24 => first | (go_simp; rfl) | go_simp
  simp only [List.setIfInBounds_toArray, List.set_cons_zero, List.set_cons_succ]
  refine lx_nil (by kernel_rfl) ?_
  go_upto_region 9 with fail
  have HB3 : Hid (Below w.heap.size w X.drew ∧ RRd X.drew (fa, n, fc) rs ∧ ∀ g, fa = some g → w.heap.size ≤ g) := ⟨HB2.out.1.drew, HB2.out.2.1.keep (S := fun _ => False) (Keep.refl _ _).drew (fun _ _ h => h), HB2.out.2.2⟩
  have HS1 : LsM X.drew F q mb m P := HS0.keep (S := fun _ => False) (Keep.refl _ _).drew (fun _ _ h => h)
  clear HS0 HB2 cH
  refine wp_region_lx (fun w' => LsM w' F q mb m P) [7] 8 (by kernel_rfl) (by kernel_rfl) ?_
  generalize X.drew = Y at HB3 HS1 ⊢
  refine lx_rd 0 (.pointer (some ⟨q, 0, none⟩)) (by kernel_rfl) (fun _ _ d _ _ h => by cases d <;> exact h) (by kernel_rfl) HS1 rfl rfl rfl (fun w' hS => ?hD0) ?_
  case hD0 => first | (go_simp; rfl) | go_simp
  simp only [List.setIfInBounds_toArray, List.set_cons_zero, List.set_cons_succ]
  refine lx_rd 1 (.pointer (some ⟨q, 0, none⟩)) (by kernel_rfl) (fun _ _ d _ _ h => by cases d <;> exact h) (by kernel_rfl) HS1 rfl rfl rfl (fun w' hS => ?hD1) ?_
  case hD1 => first | (go_simp; rfl) | go_simp
  simp only [List.setIfInBounds_toArray, List.set_cons_zero, List.set_cons_succ]
  refine lx_rd 2 (.pointer (some ⟨q, 3, none⟩)) (by kernel_rfl) (fun _ _ d _ _ h => by cases d <;> exact h) (by kernel_rfl) HS1 rfl rfl rfl (fun w' hS => ?hD2) ?_
  case hD2 => first | (go_simp; rfl) | go_simp
  simp only [List.setIfInBounds_toArray, List.set_cons_zero, List.set_cons_succ]
  refine lx_rd 3 (.map (some mb)) (by kernel_rfl) (fun _ _ d _ _ h => by cases d <;> exact h) (by kernel_rfl) HS1 rfl rfl rfl (fun w' hS => ?hD3) ?_
  case hD3 => have q0 := hS.c3; first | (go_simp; rfl) | go_simp
  simp only [List.setIfInBounds_toArray, List.set_cons_zero, List.set_cons_succ]
  refine lx_rd 4 (.string (ba s)) (by kernel_rfl) (fun _ _ d _ _ h => by cases d <;> exact h) (by kernel_rfl) HS1 rfl rfl rfl (fun w' hS => ?hD4) ?_
  case hD4 => first | (go_simp; rfl) | go_simp
  simp only [List.setIfInBounds_toArray, List.set_cons_zero, List.set_cons_succ]
  refine lx_rd 6 ?vD6 (by kernel_rfl) (fun _ _ d _ _ h => by cases d <;> exact h) (by kernel_rfl) HS1 rfl rfl rfl (fun w' hS => ?hD6) ?_
  case hD6 => first | (go_simp; rfl) | go_simp
  simp only [List.setIfInBounds_toArray, List.set_cons_zero, List.set_cons_succ]
  refine lx_one 5 (by kernel_rfl) (stepT_call 30 ?ad rfl rfl rfl ?rd ?_)
  case rd => first | (go_simp; rfl) | go_simp
  refine (clone_any (ba s) Y (by rw [ba_size]; have := HL.out.2; omega)).mono ?_
  rintro e w4 ⟨rfl, hb4⟩
  refine ⟨_, rfl, fun _ => HS1.below hb4, ?_⟩
  simp only [lxa, lxb, lxc]
  have hm4 := (HS1.below hb4).map
  obtain ⟨w5, hr5, hm5, hk5⟩ := hm4.store (by have := HL.out.1; omega) s (by have := HL.out.2; unfold maxLen; omega) (fa, n, fc)
  refine lx_one 7 (by kernel_rfl) (stepT_store (w' := w5) rfl rfl rfl ?cd (fun h => by cases h) ?_)
  case cd => exact exec_mapput (.tmp 51) (.tmp 53) (.tmp 54) rfl mb rfl (ba s) rfl (rsl (fa, n, fc)) (by rw [show rsl (fa, n, fc) = .slice fA n fc from by unfold rsl; rw [hfa.out]]; rfl) hr5
  refine lx_nil (by kernel_rfl) ?_
  have HQ : Hid (Lq w F q (putP P s rs) w5) := HH.out.put (w1 := w4) (HB3.out.1.trans (hb4.mono HB3.out.1.size)) s (fa, n, fc) rs (HB3.out.2.1.below hb4) HB3.out.2.2 hm5 hk5
  clear HS1 hm4 hm5 hk5 hr5 HB3 hb4
  go_wp2
  go_ret
  exact ⟨rfl, HQ.out⟩
theorem set_any (s : By) (a : Option Addr) (n c : Nat) (ts : List By) (w : World) (F : Nat → Prop) (q : Nat) (P : Pl) (h : LsAt w F q P) (hs : s.length ≤ 1000000) (hR : TRd w a n c ts) (hn : n ≤ 100000) (hts : ∀ t ∈ ts, t.length ≤ 2000000) (hk : P.ks.length < 900000) (hT : Lib.Utf8Tabs 0 1 w) :
    Calls Tryd.prog 15 #[.pointer (some ⟨q, 0, none⟩), .string (ba s), .slice a n c] w fun e w' => e = .returned (.int .i64 ((setR P s ts).1 : Nat)) ∧ Lq w F q (setR P s ts).2 w' := by
  obtain ⟨mb, m, h⟩ := h
  have hlen : ts.length = n := hR.len
  unfold setR
  rw [hlen]
  by_cases h0 : nameE s = 0
  · rw [if_neg (by simp [h0])]
    by_cases h1 : (readR ts).2 = 0
    · rw [if_neg (by simp [h1])]
      unfold fullR
      cases hd1 : decide (P.ru < (n : Int)) with
      | true => exact set_3 s a n c ts w F q mb m P h hs hR hn hts hk hT h0 h1 hd1
      | false =>
        cases hh : (P.m s).isSome with
        | true => exact set_4 s a n c ts w F q mb m P h hs hR hn hts hk hT h0 h1 hd1 hh
        | false =>
          cases hd2 : decide (P.li ≤ (P.ks.length : Int)) with
          | true => exact set_5 s a n c ts w F q mb m P h hs hR hn hts hk hT h0 h1 hd1 hh hd2
          | false => exact set_6 s a n c ts w F q mb m P h hs hR hn hts hk hT h0 h1 hd1 hh hd2
    · rw [if_pos h1]
      exact set_2 s a n c ts w F q mb m P h hs hR hn hts hT h0 h1
  · rw [if_pos h0]
    exact set_1 s a n c w F q mb m P h hs hT h0
end Go.Proofs.YtiplalbicibahaaDoor
