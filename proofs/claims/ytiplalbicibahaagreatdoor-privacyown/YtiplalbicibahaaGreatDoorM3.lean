/- Texts of one seat, one behind the other: PvJ, PvK, PvQ, PvL, PvM, PvN, PvO, PvZa. -/
import Derived.Test.YtiplalbicibahaaGreatDoorM2
import Derived.Laws.StructEq
import Derived.ChangeShapes
import Derived.SliceStrings
import Derived.OpenShut
import Derived.ProofKit
import Derived.Laws.AppendOwnNone
import Derived.Sort.Walk0
/- privacy: Set. -/
set_option maxRecDepth 100000
namespace Go.Proofs.YtiplalbicibahaaGreatDoor
open Go.RowKit Go.Joins Go.Shelf

/-- What Set does. -/
def fullR (P : Pl) (s : By) (n : Nat) : Bool := decide (P.ru < (n : Int)) || (!(P.m s).isSome && decide (P.li ≤ (P.ks.length : Int)))
def putP (P : Pl) (s : By) (rs : List Rul) : Pl := { P with ks := if (P.m s).isSome = true then P.ks else s :: P.ks, m := putM P.m s (some rs) }
def setR (P : Pl) (s : By) (ts : List By) : Nat × Pl :=
  if nameE s ≠ 0 then (nameE s, P)
  else if (readR ts).2 ≠ 0 then ((readR ts).2, P)
  else if fullR P s ts.length = true then (8, P)
  else (0, putP P s (readR ts).1)

theorem LsM.put {w w1 w' : World} {F : Nat → Prop} {q mb : Nat} {m : By → Option Rw} {P : Pl} (h : LsM w F q mb m P) (hb : Below w.heap.size w w1) (s : By) (f : Rw) (rs : List Rul) (hf : RRd w1 f rs) (hfn : ∀ g, f.1 = some g → w.heap.size ≤ g)
    (hm : RMap w' mb (P.ks.length + 1) (putM m s (some f))) (hk : Keep (fun i => i = mb) w1 w') : Lq w F q (putP P s rs) w' := by
  have h1 := h.below hb
  have hks : (putP P s rs).ks.Nodup := by
    unfold putP
    by_cases hs : (P.m s).isSome = true
    · rw [if_pos hs]; exact h.nd
    · rw [if_neg hs]
      exact List.nodup_cons.2 ⟨fun e => hs ((h.mem s).2 e), h.nd⟩
  have hmem : ∀ u, ((putP P s rs).m u).isSome = true ↔ u ∈ (putP P s rs).ks := fun u => by
    unfold putP
    dsimp only
    by_cases hu : u = s
    · subst hu
      rw [putM_same]
      by_cases hs : (P.m u).isSome = true
      · rw [if_pos hs]; simp [(h.mem u).1 hs]
      · rw [if_neg hs]; simp
    · rw [putM_other _ _ hu, h.mem u]
      by_cases hs : (P.m s).isSome = true
      · rw [if_pos hs]
      · rw [if_neg hs]; simp [hu]
  have htie : ∀ u, TieR w' (fun i => F i ∨ (w.heap.size ≤ i ∧ i < w'.heap.size)) (putM m s (some f) u) ((putP P s rs).m u) := fun u => by
    unfold putP
    dsimp only
    by_cases hu : u = s
    · subst hu
      rw [putM_same, putM_same]
      refine ⟨hf.keep hk (fun g hg e => ?_), fun g hg => Or.inr ⟨hfn g hg, ?_⟩⟩
      · have := hfn g hg; have := h.lt mb h.fm; omega
      · obtain ⟨cur, hc⟩ := hf.typ g hg
        exact Nat.lt_of_lt_of_le (box_lt hc) hk.size
    · rw [putM_other _ _ hu, putM_other _ _ hu]
      exact (h1.tie u).keep hk (fun f g hf hg e => (h1.row hf hg).2 e) (fun i hi => Or.inl hi)
  refine ⟨fun i => F i ∨ (w.heap.size ≤ i ∧ i < w'.heap.size), ⟨mb, putM m s (some f), ?_⟩, (Keep.ofBelow hb).trans (hk.mono (fun i e => by rw [e]; exact h.fm)), fun i hi => hi.imp id (fun k => k.1)⟩
  refine ⟨box_keep h1.blk hk (fun e => h1.ne e), ?_, Or.inl h.fq, Or.inl h.fm, htie, fun i hi => ?_, hks, hmem⟩
  · exact hm.tight _ hks (fun u => by rw [(htie u).isSome]; exact hmem u)
  · rcases hi with z | z
    · exact Nat.lt_of_lt_of_le (h1.lt i z) hk.size
    · exact z.2

theorem exec_mapput {o : Oper} {ρ : Operand → Value} {w w' : World} (p y z : Operand) (ho : o.op = .mapUpdate 52 p y z) (mb : Nat) (hp : ρ p = .map (some mb)) (c : ByteArray) (hy : ρ y = .string c) (v : Value) (hz : ρ z = v)
    (hrun : (Instr.mapUpdate 52 (.map (some mb)) (.string c) v).run Tryz.prog w = .ok () w') : (execOp ρ o).run Tryz.prog w = .ok .skip w' := by
  unfold execOp
  simp only [ho, hp, hy, hz, Sem.run_bind, hrun, Result.andThen_ok, Sem.run_pure]

theorem LsM.hmem {w : World} {F : Nat → Prop} {q mb : Nat} {m : By → Option Rw} {P : Pl} (h : LsM w F q mb m P) (s : By) : (m s).isSome = true ↔ s ∈ P.ks := by rw [(h.tie s).isSome]; exact h.mem s
set_option maxHeartbeats 1600000 in
theorem set_1 (s : By) (a : Option Addr) (n c : Nat) (w : World) (F : Nat → Prop) (q mb : Nat) (m : By → Option Rw) (P : Pl) (h : LsM w F q mb m P) (hs : s.length ≤ 1000000) (hT : Lib.Utf8Tabs 0 1 w) (h0 : nameE s ≠ 0) :
    Calls Tryz.prog 18 #[.pointer (some ⟨q, 0, none⟩), .string (ba s), .slice a n c] w fun e w' => e = .returned (.int .i64 (nameE s : Nat)) ∧ Lq w F q P w' := by
  have cN := checkName_any (ba s) w (by rw [ba_size]; omega) hT
  rw [ba_list] at cN
  have HH : Hid (LsM w F q mb m P) := h
  clear hT h hs
  generalize nameE s = ne at *
  have hd : ((ne : Int) != 0) = true := by simp; omega
  clear h0
  go_enter Tryz.func18, Tryz.ntmps18
  go_wp2_with (go_at_call 40; refine cN.mono ?_; clear cN; rintro e w1 ⟨rfl, hb1⟩)
  go_ret
  exact ⟨rfl, Lq.ofBelow ⟨mb, m, HH.out⟩ hb1⟩
set_option maxHeartbeats 1600000 in
theorem set_2 (s : By) (a : Option Addr) (n c : Nat) (ts : List By) (w : World) (F : Nat → Prop) (q mb : Nat) (m : By → Option Rw) (P : Pl) (h : LsM w F q mb m P) (hs : s.length ≤ 1000000) (hR : TRd w a n c ts) (hn : n ≤ 100000) (hts : ∀ t ∈ ts, t.length ≤ 2000000) (hT : Lib.Utf8Tabs 0 1 w) (h0 : nameE s = 0) (h1 : (readR ts).2 ≠ 0) :
    Calls Tryz.prog 18 #[.pointer (some ⟨q, 0, none⟩), .string (ba s), .slice a n c] w fun e w' => e = .returned (.int .i64 ((readR ts).2 : Nat)) ∧ Lq w F q P w' := by
  have cN := checkName_any (ba s) w (by rw [ba_size]; omega) hT
  rw [ba_list] at cN
  have HH : Hid (LsM w F q mb m P) := h
  have hlen : ts.length = n := hR.len
  rw [h0] at cN
  have cR : Hid (∀ w1, Below w.heap.size w w1 → Calls Tryz.prog 41 #[.slice a n c] w1 (fun e w2 => e = .returned (.tuple #[.slice none 0 0, .int .i64 ((readR ts).2 : Nat)]) ∧ Below w1.heap.size w1 w2)) := fun w1 hb => (read_any a n c ts w1 (hR.below hb) hn hts (tabs_bel hT hb)).mono (fun e w2 hh => ⟨hh.1.elim (fun z => absurd z.1 h1) (fun z => z.2), hh.2⟩)
  clear hR hn hts hT h hlen hs h0
  generalize (readR ts).2 = ne at *
  have hd : ((ne : Int) != 0) = true := by simp; omega
  clear h1
  go_enter Tryz.func18, Tryz.ntmps18
  go_wp2_with (first
    | (go_at_call 40; refine cN.mono ?_; clear cN; rintro e w1 ⟨rfl, hb1⟩; have cR := cR.out w1 hb1)
    | (go_at_call 41; refine cR.mono ?_; clear cR; rintro e w2 ⟨rfl, hb2⟩))
  go_ret
  exact ⟨rfl, Lq.ofBelow ⟨mb, m, HH.out⟩ (hb1.trans (hb2.mono hb1.size))⟩
set_option maxHeartbeats 1600000 in
theorem set_3 (s : By) (a : Option Addr) (n c : Nat) (ts : List By) (w : World) (F : Nat → Prop) (q mb : Nat) (m : By → Option Rw) (P : Pl) (h : LsM w F q mb m P) (hs : s.length ≤ 1000000) (hR : TRd w a n c ts) (hn : n ≤ 100000) (hts : ∀ t ∈ ts, t.length ≤ 2000000) (hk : P.ks.length < 900000) (hT : Lib.Utf8Tabs 0 1 w) (h0 : nameE s = 0) (h1 : (readR ts).2 = 0) (hd1 : Hid (decide (P.ru < (n : Int)) = true)) :
    Calls Tryz.prog 18 #[.pointer (some ⟨q, 0, none⟩), .string (ba s), .slice a n c] w fun e w' => e = .returned (.int .i64 8) ∧ Lq w F q P w' := by
  have cN := checkName_any (ba s) w (by rw [ba_size]; omega) hT
  rw [ba_list] at cN
  have HH : Hid (LsM w F q mb m P) := h
  have hlen : ts.length = n := hR.len
  rw [h0] at cN
  have cR2 : Hid (∀ w1, Below w.heap.size w w1 → Calls Tryz.prog 41 #[.slice a n c] w1 (fun e w2 => ∃ fa fc, e = .returned (.tuple #[.slice (fa.map fun g => ⟨g, 0, none⟩) n fc, .int .i64 0]) ∧ Hid (RRd w2 (fa, n, fc) (readR ts).1 ∧ (∀ g, fa = some g → w1.heap.size ≤ g) ∧ Below w1.heap.size w1 w2))) := fun w1 hb => (read_any a n c ts w1 (hR.below hb) hn hts (tabs_bel hT hb)).mono (fun e w2 hh => by
    obtain ⟨hA, hB⟩ := hh
    rcases hA with ⟨_, v, rfl, ho⟩ | ⟨hne, _⟩
    · obtain ⟨⟨fa, fn, fc⟩, rfl, hf, hfn, hfb⟩ := RRd.ofOwn ho
      have : fn = n := by rw [← hlen]; exact hfn
      subst this
      exact ⟨fa, fc, rfl, hf, fun g hg => (hfb g hg).1, hB⟩
    · exact absurd h1 hne)
  have HL : Hid (P.ks.length < 900000 ∧ s.length ≤ 1000000) := ⟨hk, hs⟩
  have cH : Hid (∀ w1, LsM w1 F q mb m P → Calls Tryz.prog 29 #[.pointer (some ⟨q, 0, none⟩), .string (ba s)] w1 fun e w' => e = .returned (.bool (P.m s).isSome) ∧ w' = w1) := fun w1 k => has_any s w1 F q mb m P k hs
  generalize (readR ts).1 = rs at *
  clear hR hn hts hk hT h hlen hs h0 h1
  go_enter Tryz.func18, Tryz.ntmps18
  go_upto_region 7 with (first
    | (go_at_call 40; refine cN.mono ?_; clear cN; rintro e w1 ⟨rfl, hb1⟩; have cR := cR2.out w1 hb1; clear cR2)
    | (go_at_call 41; refine cR.mono ?_; clear cR; rintro e w2 ⟨fa, fc, rfl, hf⟩))
  have HB2 : Hid (Below w.heap.size w w2.drew ∧ RRd w2.drew (fa, n, fc) rs ∧ ∀ g, fa = some g → w.heap.size ≤ g) := ⟨(hb1.trans (hf.out.2.2.mono hb1.size)).drew, hf.out.1.keep (S := fun _ => False) (Keep.refl _ _).drew (fun _ _ h => h), fun g hg => Nat.le_trans hb1.size (hf.out.2.1 g hg)⟩
  have HS0 : LsM w2.drew F q mb m P := HH.out.below HB2.out.1
  clear hf hb1
  refine wp_region_lx (fun w' => LsM w' F q mb m P) [] 25 (by kernel_rfl) (by kernel_rfl) ?_
  generalize hfa : (fa.map fun g => (⟨g, 0, none⟩ : Addr)) = fA
  replace hfa : Hid _ := hfa
  generalize w2.drew = X at HB2 HS0 ⊢
  obtain ⟨len, HLn⟩ : ∃ len, Hid (P.ks.length = len) := ⟨_, rfl⟩
  refine lx_rd 0 ?vA0 (by kernel_rfl) (fun _ _ d _ _ h => by cases d <;> exact h) (by kernel_rfl) HS0 rfl rfl rfl (fun w' hS => ?hA0) ?_
  case hA0 => first | (go_simp; rfl) | go_simp
  simp only [List.setIfInBounds_toArray, List.set_cons_zero, List.set_cons_succ]
  refine lx_rd 1 (.int .i64 n) (by kernel_rfl) (fun _ _ d _ _ h => by cases d <;> exact h) (by kernel_rfl) HS0 rfl rfl rfl (fun w' hS => ?hA1) ?_
  case hA1 => first | (go_simp; rfl) | go_simp
  simp only [List.setIfInBounds_toArray, List.set_cons_zero, List.set_cons_succ]
  refine lx_rd 2 (.pointer (some ⟨q, 0, none⟩)) (by kernel_rfl) (fun _ _ d _ _ h => by cases d <;> exact h) (by kernel_rfl) HS0 rfl rfl rfl (fun w' hS => ?hA2) ?_
  case hA2 => first | (go_simp; rfl) | go_simp
  simp only [List.setIfInBounds_toArray, List.set_cons_zero, List.set_cons_succ]
  refine lx_rd 3 (.pointer (some ⟨q, 0, none⟩)) (by kernel_rfl) (fun _ _ d _ _ h => by cases d <;> exact h) (by kernel_rfl) HS0 rfl rfl rfl (fun w' hS => ?hA3) ?_
  case hA3 => first | (go_simp; rfl) | go_simp
  simp only [List.setIfInBounds_toArray, List.set_cons_zero, List.set_cons_succ]
  refine lx_rd 4 (.pointer (some ⟨q, 1, none⟩)) (by kernel_rfl) (fun _ _ d _ _ h => by cases d <;> exact h) (by kernel_rfl) HS0 rfl rfl rfl (fun w' hS => ?hA4) ?_
  case hA4 => first | (go_simp; rfl) | go_simp
  simp only [List.setIfInBounds_toArray, List.set_cons_zero, List.set_cons_succ]
  refine lx_rd 5 (.int .i64 P.ru) (by kernel_rfl) (fun _ _ d _ _ h => by cases d <;> exact h) (by kernel_rfl) HS0 rfl rfl rfl (fun w' hS => ?hA5) ?_
  case hA5 => have q0 := hS.c1; first | (go_simp; rfl) | go_simp
  simp only [List.setIfInBounds_toArray, List.set_cons_zero, List.set_cons_succ]
  refine lx_rd 6 (.bool true) (by kernel_rfl) (fun _ _ d _ _ h => by cases d <;> exact h) (by kernel_rfl) HS0 rfl rfl rfl (fun w' hS => ?hA6) ?_
  case hA6 => have q1 := hd1.out; first | (go_simp; rfl) | go_simp
  simp only [List.setIfInBounds_toArray, List.set_cons_zero, List.set_cons_succ]
  refine lx_rd 7 (.bool true) (by kernel_rfl) (fun _ _ d _ _ h => by cases d <;> exact h) (by kernel_rfl) HS0 rfl rfl rfl (fun w' hS => ?hA7) ?_
  case hA7 => first | (go_simp; rfl) | go_simp
  simp only [List.setIfInBounds_toArray, List.set_cons_zero, List.set_cons_succ]
  refine lx_skip 8 (by kernel_rfl) (fun _ _ d _ _ h => by cases d <;> exact h) (by kernel_rfl) HS0 rfl rfl rfl ?_
  simp only [List.setIfInBounds_toArray, List.set_cons_zero, List.set_cons_succ]
  refine lx_skip 9 (by kernel_rfl) (fun _ _ d _ _ h => by cases d <;> exact h) (by kernel_rfl) HS0 rfl rfl rfl ?_
  simp only [List.setIfInBounds_toArray, List.set_cons_zero, List.set_cons_succ]
  refine lx_skip 10 (by kernel_rfl) (fun _ _ d _ _ h => by cases d <;> exact h) (by kernel_rfl) HS0 rfl rfl rfl ?_
  simp only [List.setIfInBounds_toArray, List.set_cons_zero, List.set_cons_succ]
  refine lx_skip 11 (by kernel_rfl) (fun _ _ d _ _ h => by cases d <;> exact h) (by kernel_rfl) HS0 rfl rfl rfl ?_
  simp only [List.setIfInBounds_toArray, List.set_cons_zero, List.set_cons_succ]
  refine lx_skip 12 (by kernel_rfl) (fun _ _ d _ _ h => by cases d <;> exact h) (by kernel_rfl) HS0 rfl rfl rfl ?_
  simp only [List.setIfInBounds_toArray, List.set_cons_zero, List.set_cons_succ]
  refine lx_skip 13 (by kernel_rfl) (fun _ _ d _ _ h => by cases d <;> exact h) (by kernel_rfl) HS0 rfl rfl rfl ?_
  simp only [List.setIfInBounds_toArray, List.set_cons_zero, List.set_cons_succ]
  refine lx_skip 14 (by kernel_rfl) (fun _ _ d _ _ h => by cases d <;> exact h) (by kernel_rfl) HS0 rfl rfl rfl ?_
  simp only [List.setIfInBounds_toArray, List.set_cons_zero, List.set_cons_succ]
  refine lx_skip 15 (by kernel_rfl) (fun _ _ d _ _ h => by cases d <;> exact h) (by kernel_rfl) HS0 rfl rfl rfl ?_
  simp only [List.setIfInBounds_toArray, List.set_cons_zero, List.set_cons_succ]
  refine lx_skip 16 (by kernel_rfl) (fun _ _ d _ _ h => by cases d <;> exact h) (by kernel_rfl) HS0 rfl rfl rfl ?_
  simp only [List.setIfInBounds_toArray, List.set_cons_zero, List.set_cons_succ]
  refine lx_skip 17 (by kernel_rfl) (fun _ _ d _ _ h => by cases d <;> exact h) (by kernel_rfl) HS0 rfl rfl rfl ?_
  simp only [List.setIfInBounds_toArray, List.set_cons_zero, List.set_cons_succ]
  refine lx_skip 18 (by kernel_rfl) (fun _ _ d _ _ h => by cases d <;> exact h) (by kernel_rfl) HS0 rfl rfl rfl ?_
  simp only [List.setIfInBounds_toArray, List.set_cons_zero, List.set_cons_succ]
  refine lx_skip 19 (by kernel_rfl) (fun _ _ d _ _ h => by cases d <;> exact h) (by kernel_rfl) HS0 rfl rfl rfl ?_
  simp only [List.setIfInBounds_toArray, List.set_cons_zero, List.set_cons_succ]
  refine lx_skip 20 (by kernel_rfl) (fun _ _ d _ _ h => by cases d <;> exact h) (by kernel_rfl) HS0 rfl rfl rfl ?_
  simp only [List.setIfInBounds_toArray, List.set_cons_zero, List.set_cons_succ]
  refine lx_skip 21 (by kernel_rfl) (fun _ _ d _ _ h => by cases d <;> exact h) (by kernel_rfl) HS0 rfl rfl rfl ?_
  simp only [List.setIfInBounds_toArray, List.set_cons_zero, List.set_cons_succ]
  refine lx_skip 22 (by kernel_rfl) (fun _ _ d _ _ h => by cases d <;> exact h) (by kernel_rfl) HS0 rfl rfl rfl ?_
  simp only [List.setIfInBounds_toArray, List.set_cons_zero, List.set_cons_succ]
  refine lx_skip 23 (by kernel_rfl) (fun _ _ d _ _ h => by cases d <;> exact h) (by kernel_rfl) HS0 rfl rfl rfl ?_
  simp only [List.setIfInBounds_toArray, List.set_cons_zero, List.set_cons_succ]
  refine lx_rd 24 (.bool true) (by kernel_rfl) (fun _ _ d _ _ h => by cases d <;> exact h) (by kernel_rfl) HS0 rfl rfl rfl (fun w' hS => ?hE24) ?_
  case hE24 => first | (go_simp; rfl) | go_simp
  simp only [List.setIfInBounds_toArray, List.set_cons_zero, List.set_cons_succ]
  refine lx_nil (by kernel_rfl) ?_
  clear HS0 cH
  go_wp2
  go_ret
  exact ⟨rfl, Lq.ofBelow ⟨mb, m, HH.out⟩ HB2.out.1⟩
set_option maxHeartbeats 1600000 in
theorem set_4 (s : By) (a : Option Addr) (n c : Nat) (ts : List By) (w : World) (F : Nat → Prop) (q mb : Nat) (m : By → Option Rw) (P : Pl) (h : LsM w F q mb m P) (hs : s.length ≤ 1000000) (hR : TRd w a n c ts) (hn : n ≤ 100000) (hts : ∀ t ∈ ts, t.length ≤ 2000000) (hk : P.ks.length < 900000) (hT : Lib.Utf8Tabs 0 1 w) (h0 : nameE s = 0) (h1 : (readR ts).2 = 0) (hd1 : Hid (decide (P.ru < (n : Int)) = false)) (hh : (P.m s).isSome = true) :
    Calls Tryz.prog 18 #[.pointer (some ⟨q, 0, none⟩), .string (ba s), .slice a n c] w fun e w' => e = .returned (.int .i64 0) ∧ Lq w F q (putP P s (readR ts).1) w' := by
  have cN := checkName_any (ba s) w (by rw [ba_size]; omega) hT
  rw [ba_list] at cN
  have HH : Hid (LsM w F q mb m P) := h
  have hlen : ts.length = n := hR.len
  rw [h0] at cN
  have cR2 : Hid (∀ w1, Below w.heap.size w w1 → Calls Tryz.prog 41 #[.slice a n c] w1 (fun e w2 => ∃ fa fc, e = .returned (.tuple #[.slice (fa.map fun g => ⟨g, 0, none⟩) n fc, .int .i64 0]) ∧ Hid (RRd w2 (fa, n, fc) (readR ts).1 ∧ (∀ g, fa = some g → w1.heap.size ≤ g) ∧ Below w1.heap.size w1 w2))) := fun w1 hb => (read_any a n c ts w1 (hR.below hb) hn hts (tabs_bel hT hb)).mono (fun e w2 hh => by
    obtain ⟨hA, hB⟩ := hh
    rcases hA with ⟨_, v, rfl, ho⟩ | ⟨hne, _⟩
    · obtain ⟨⟨fa, fn, fc⟩, rfl, hf, hfn, hfb⟩ := RRd.ofOwn ho
      have : fn = n := by rw [← hlen]; exact hfn
      subst this
      exact ⟨fa, fc, rfl, hf, fun g hg => (hfb g hg).1, hB⟩
    · exact absurd h1 hne)
  have HL : Hid (P.ks.length < 900000 ∧ s.length ≤ 1000000) := ⟨hk, hs⟩
  have cH : Hid (∀ w1, LsM w1 F q mb m P → Calls Tryz.prog 29 #[.pointer (some ⟨q, 0, none⟩), .string (ba s)] w1 fun e w' => e = .returned (.bool (P.m s).isSome) ∧ w' = w1) := fun w1 k => has_any s w1 F q mb m P k hs
  generalize (readR ts).1 = rs at *
  clear hR hn hts hk hT h hlen hs h0 h1
  go_enter Tryz.func18, Tryz.ntmps18
  go_upto_region 7 with (first
    | (go_at_call 40; refine cN.mono ?_; clear cN; rintro e w1 ⟨rfl, hb1⟩; have cR := cR2.out w1 hb1; clear cR2)
    | (go_at_call 41; refine cR.mono ?_; clear cR; rintro e w2 ⟨fa, fc, rfl, hf⟩))
  have HB2 : Hid (Below w.heap.size w w2.drew ∧ RRd w2.drew (fa, n, fc) rs ∧ ∀ g, fa = some g → w.heap.size ≤ g) := ⟨(hb1.trans (hf.out.2.2.mono hb1.size)).drew, hf.out.1.keep (S := fun _ => False) (Keep.refl _ _).drew (fun _ _ h => h), fun g hg => Nat.le_trans hb1.size (hf.out.2.1 g hg)⟩
  have HS0 : LsM w2.drew F q mb m P := HH.out.below HB2.out.1
  clear hf hb1
  refine wp_region_lx (fun w' => LsM w' F q mb m P) [] 25 (by kernel_rfl) (by kernel_rfl) ?_
  generalize hfa : (fa.map fun g => (⟨g, 0, none⟩ : Addr)) = fA
  replace hfa : Hid _ := hfa
  generalize w2.drew = X at HB2 HS0 ⊢
  obtain ⟨len, HLn⟩ : ∃ len, Hid (P.ks.length = len) := ⟨_, rfl⟩
  rw [hh] at cH
  refine lx_rd 0 ?vA0 (by kernel_rfl) (fun _ _ d _ _ h => by cases d <;> exact h) (by kernel_rfl) HS0 rfl rfl rfl (fun w' hS => ?hA0) ?_
  case hA0 => first | (go_simp; rfl) | go_simp
  simp only [List.setIfInBounds_toArray, List.set_cons_zero, List.set_cons_succ]
  refine lx_rd 1 (.int .i64 n) (by kernel_rfl) (fun _ _ d _ _ h => by cases d <;> exact h) (by kernel_rfl) HS0 rfl rfl rfl (fun w' hS => ?hA1) ?_
  case hA1 => first | (go_simp; rfl) | go_simp
  simp only [List.setIfInBounds_toArray, List.set_cons_zero, List.set_cons_succ]
  refine lx_rd 2 (.pointer (some ⟨q, 0, none⟩)) (by kernel_rfl) (fun _ _ d _ _ h => by cases d <;> exact h) (by kernel_rfl) HS0 rfl rfl rfl (fun w' hS => ?hA2) ?_
  case hA2 => first | (go_simp; rfl) | go_simp
  simp only [List.setIfInBounds_toArray, List.set_cons_zero, List.set_cons_succ]
  refine lx_rd 3 (.pointer (some ⟨q, 0, none⟩)) (by kernel_rfl) (fun _ _ d _ _ h => by cases d <;> exact h) (by kernel_rfl) HS0 rfl rfl rfl (fun w' hS => ?hA3) ?_
  case hA3 => first | (go_simp; rfl) | go_simp
  simp only [List.setIfInBounds_toArray, List.set_cons_zero, List.set_cons_succ]
  refine lx_rd 4 (.pointer (some ⟨q, 1, none⟩)) (by kernel_rfl) (fun _ _ d _ _ h => by cases d <;> exact h) (by kernel_rfl) HS0 rfl rfl rfl (fun w' hS => ?hA4) ?_
  case hA4 => first | (go_simp; rfl) | go_simp
  simp only [List.setIfInBounds_toArray, List.set_cons_zero, List.set_cons_succ]
  refine lx_rd 5 (.int .i64 P.ru) (by kernel_rfl) (fun _ _ d _ _ h => by cases d <;> exact h) (by kernel_rfl) HS0 rfl rfl rfl (fun w' hS => ?hA5) ?_
  case hA5 => have q0 := hS.c1; first | (go_simp; rfl) | go_simp
  simp only [List.setIfInBounds_toArray, List.set_cons_zero, List.set_cons_succ]
  refine lx_rd 6 (.bool false) (by kernel_rfl) (fun _ _ d _ _ h => by cases d <;> exact h) (by kernel_rfl) HS0 rfl rfl rfl (fun w' hS => ?hA6) ?_
  case hA6 => have q1 := hd1.out; first | (go_simp; rfl) | go_simp
  simp only [List.setIfInBounds_toArray, List.set_cons_zero, List.set_cons_succ]
  refine lx_rd 7 (.bool false) (by kernel_rfl) (fun _ _ d _ _ h => by cases d <;> exact h) (by kernel_rfl) HS0 rfl rfl rfl (fun w' hS => ?hA7) ?_
  case hA7 => first | (go_simp; rfl) | go_simp
  simp only [List.setIfInBounds_toArray, List.set_cons_zero, List.set_cons_succ]
  refine lx_rd 8 ?vB8 (by kernel_rfl) (fun _ _ d _ _ h => by cases d <;> exact h) (by kernel_rfl) HS0 rfl rfl rfl (fun w' hS => ?hB8) ?_
  case hB8 => first | (go_simp; rfl) | go_simp
  simp only [List.setIfInBounds_toArray, List.set_cons_zero, List.set_cons_succ]
  refine lx_rd 9 ?vB9 (by kernel_rfl) (fun _ _ d _ _ h => by cases d <;> exact h) (by kernel_rfl) HS0 rfl rfl rfl (fun w' hS => ?hB9) ?_
  case hB9 => first | (go_simp; rfl) | go_simp
  simp only [List.setIfInBounds_toArray, List.set_cons_zero, List.set_cons_succ]
  refine lx_one 10 (by kernel_rfl) (stepT_call 29 ?ac rfl rfl rfl ?rc ?_)
  case rc => first | (go_simp; rfl) | go_simp
  refine (cH.out X HS0).mono ?_
  rintro e w3 ⟨rfl, hw3⟩
  replace hw3 := hw3.symm
  subst hw3
  refine ⟨_, rfl, fun _ => HS0, ?_⟩
  simp only [lxa, lxb, lxc]
  refine lx_rd 11 (.bool false) (by kernel_rfl) (fun _ _ d _ _ h => by cases d <;> exact h) (by kernel_rfl) HS0 rfl rfl rfl (fun w' hS => ?hF11) ?_
  case hF11 => first | (go_simp; rfl) | go_simp
  simp only [List.setIfInBounds_toArray, List.set_cons_zero, List.set_cons_succ]
  refine lx_rd 12 (.bool false) (by kernel_rfl) (fun _ _ d _ _ h => by cases d <;> exact h) (by kernel_rfl) HS0 rfl rfl rfl (fun w' hS => ?hF12) ?_
  case hF12 => first | (go_simp; rfl) | go_simp
  simp only [List.setIfInBounds_toArray, List.set_cons_zero, List.set_cons_succ]
  refine lx_skip 13 (by kernel_rfl) (fun _ _ d _ _ h => by cases d <;> exact h) (by kernel_rfl) HS0 rfl rfl rfl ?_
  simp only [List.setIfInBounds_toArray, List.set_cons_zero, List.set_cons_succ]
  refine lx_skip 14 (by kernel_rfl) (fun _ _ d _ _ h => by cases d <;> exact h) (by kernel_rfl) HS0 rfl rfl rfl ?_
  simp only [List.setIfInBounds_toArray, List.set_cons_zero, List.set_cons_succ]
  refine lx_skip 15 (by kernel_rfl) (fun _ _ d _ _ h => by cases d <;> exact h) (by kernel_rfl) HS0 rfl rfl rfl ?_
  simp only [List.setIfInBounds_toArray, List.set_cons_zero, List.set_cons_succ]
  refine lx_skip 16 (by kernel_rfl) (fun _ _ d _ _ h => by cases d <;> exact h) (by kernel_rfl) HS0 rfl rfl rfl ?_
  simp only [List.setIfInBounds_toArray, List.set_cons_zero, List.set_cons_succ]
  refine lx_skip 17 (by kernel_rfl) (fun _ _ d _ _ h => by cases d <;> exact h) (by kernel_rfl) HS0 rfl rfl rfl ?_
  simp only [List.setIfInBounds_toArray, List.set_cons_zero, List.set_cons_succ]
  refine lx_skip 18 (by kernel_rfl) (fun _ _ d _ _ h => by cases d <;> exact h) (by kernel_rfl) HS0 rfl rfl rfl ?_
  simp only [List.setIfInBounds_toArray, List.set_cons_zero, List.set_cons_succ]
  refine lx_skip 19 (by kernel_rfl) (fun _ _ d _ _ h => by cases d <;> exact h) (by kernel_rfl) HS0 rfl rfl rfl ?_
  simp only [List.setIfInBounds_toArray, List.set_cons_zero, List.set_cons_succ]
  refine lx_skip 20 (by kernel_rfl) (fun _ _ d _ _ h => by cases d <;> exact h) (by kernel_rfl) HS0 rfl rfl rfl ?_
  simp only [List.setIfInBounds_toArray, List.set_cons_zero, List.set_cons_succ]
  refine lx_skip 21 (by kernel_rfl) (fun _ _ d _ _ h => by cases d <;> exact h) (by kernel_rfl) HS0 rfl rfl rfl ?_
  simp only [List.setIfInBounds_toArray, List.set_cons_zero, List.set_cons_succ]
  refine lx_skip 22 (by kernel_rfl) (fun _ _ d _ _ h => by cases d <;> exact h) (by kernel_rfl) HS0 rfl rfl rfl ?_
  simp only [List.setIfInBounds_toArray, List.set_cons_zero, List.set_cons_succ]
  refine lx_rd 23 (.bool false) (by kernel_rfl) (fun _ _ d _ _ h => by cases d <;> exact h) (by kernel_rfl) HS0 rfl rfl rfl (fun w' hS => ?hH23) ?_
  case hH23 => first | (go_simp; rfl) | go_simp
  simp only [List.setIfInBounds_toArray, List.set_cons_zero, List.set_cons_succ]
  refine lx_rd 24 (.bool false) (by kernel_rfl) (fun _ _ d _ _ h => by cases d <;> exact h) (by kernel_rfl) HS0 rfl rfl rfl (fun w' hS => ?hH24) ?_
  case hH24 => first | (go_simp; rfl) | go_simp
  simp only [List.setIfInBounds_toArray, List.set_cons_zero, List.set_cons_succ]
  refine lx_nil (by kernel_rfl) ?_
  go_upto_region 9 with fail
  have HB3 : Hid (Below w.heap.size w X.drew ∧ RRd X.drew (fa, n, fc) rs ∧ ∀ g, fa = some g → w.heap.size ≤ g) := ⟨HB2.out.1.drew, HB2.out.2.1.keep (S := fun _ => False) (Keep.refl _ _).drew (fun _ _ h => h), HB2.out.2.2⟩
  have HS1 : LsM X.drew F q mb m P := HS0.keep (S := fun _ => False) (Keep.refl _ _).drew (fun _ _ h => h)
  clear HS0 HB2 cH
  refine wp_region_lx (fun w' => LsM w' F q mb m P) [7] 8 (by kernel_rfl) (by kernel_rfl) ?_
  generalize X.drew = Y at HB3 HS1 ⊢
  refine lx_rd 0 (.pointer (some ⟨q, 0, none⟩)) (by kernel_rfl) (fun _ _ d _ _ h => by cases d <;> exact h) (by kernel_rfl) HS1 rfl rfl rfl (fun w' hS => ?hD0) ?_
  case hD0 => first | (go_simp; rfl) | go_simp
  simp only [List.setIfInBounds_toArray, List.set_cons_zero, List.set_cons_succ]
  refine lx_rd 1 (.pointer (some ⟨q, 0, none⟩)) (by kernel_rfl) (fun _ _ d _ _ h => by cases d <;> exact h) (by kernel_rfl) HS1 rfl rfl rfl (fun w' hS => ?hD1) ?_
  case hD1 => first | (go_simp; rfl) | go_simp
  simp only [List.setIfInBounds_toArray, List.set_cons_zero, List.set_cons_succ]
  refine lx_rd 2 (.pointer (some ⟨q, 3, none⟩)) (by kernel_rfl) (fun _ _ d _ _ h => by cases d <;> exact h) (by kernel_rfl) HS1 rfl rfl rfl (fun w' hS => ?hD2) ?_
  case hD2 => first | (go_simp; rfl) | go_simp
  simp only [List.setIfInBounds_toArray, List.set_cons_zero, List.set_cons_succ]
  refine lx_rd 3 (.map (some mb)) (by kernel_rfl) (fun _ _ d _ _ h => by cases d <;> exact h) (by kernel_rfl) HS1 rfl rfl rfl (fun w' hS => ?hD3) ?_
  case hD3 => have q0 := hS.c3; first | (go_simp; rfl) | go_simp
  simp only [List.setIfInBounds_toArray, List.set_cons_zero, List.set_cons_succ]
  refine lx_rd 4 (.string (ba s)) (by kernel_rfl) (fun _ _ d _ _ h => by cases d <;> exact h) (by kernel_rfl) HS1 rfl rfl rfl (fun w' hS => ?hD4) ?_
  case hD4 => first | (go_simp; rfl) | go_simp
  simp only [List.setIfInBounds_toArray, List.set_cons_zero, List.set_cons_succ]
  refine lx_rd 6 ?vD6 (by kernel_rfl) (fun _ _ d _ _ h => by cases d <;> exact h) (by kernel_rfl) HS1 rfl rfl rfl (fun w' hS => ?hD6) ?_
  case hD6 => first | (go_simp; rfl) | go_simp
  simp only [List.setIfInBounds_toArray, List.set_cons_zero, List.set_cons_succ]
  refine lx_one 5 (by kernel_rfl) (stepT_call 31 ?ad rfl rfl rfl ?rd ?_)
  case rd => first | (go_simp; rfl) | go_simp
  refine (clone_any (ba s) Y (by rw [ba_size]; have := HL.out.2; omega)).mono ?_
  rintro e w4 ⟨rfl, hb4⟩
  refine ⟨_, rfl, fun _ => HS1.below hb4, ?_⟩
  simp only [lxa, lxb, lxc]
  have hm4 := (HS1.below hb4).map
  obtain ⟨w5, hr5, hm5, hk5⟩ := hm4.store (by have := HL.out.1; omega) s (by have := HL.out.2; unfold maxLen; omega) (fa, n, fc)
  refine lx_one 7 (by kernel_rfl) (stepT_store (w' := w5) rfl rfl rfl ?cd (fun h => by cases h) ?_)
  case cd => exact exec_mapput (.tmp 51) (.tmp 53) (.tmp 54) rfl mb rfl (ba s) rfl (rsl (fa, n, fc)) (by rw [show rsl (fa, n, fc) = .slice fA n fc from by unfold rsl; rw [hfa.out]]; rfl) hr5
  refine lx_nil (by kernel_rfl) ?_
  have HQ : Hid (Lq w F q (putP P s rs) w5) := HH.out.put (w1 := w4) (HB3.out.1.trans (hb4.mono HB3.out.1.size)) s (fa, n, fc) rs (HB3.out.2.1.below hb4) HB3.out.2.2 hm5 hk5
  clear HS1 hm4 hm5 hk5 hr5 HB3 hb4
  go_wp2
  go_ret
  exact ⟨rfl, HQ.out⟩
set_option maxHeartbeats 1600000 in
theorem set_5 (s : By) (a : Option Addr) (n c : Nat) (ts : List By) (w : World) (F : Nat → Prop) (q mb : Nat) (m : By → Option Rw) (P : Pl) (h : LsM w F q mb m P) (hs : s.length ≤ 1000000) (hR : TRd w a n c ts) (hn : n ≤ 100000) (hts : ∀ t ∈ ts, t.length ≤ 2000000) (hk : P.ks.length < 900000) (hT : Lib.Utf8Tabs 0 1 w) (h0 : nameE s = 0) (h1 : (readR ts).2 = 0) (hd1 : Hid (decide (P.ru < (n : Int)) = false)) (hh : (P.m s).isSome = false) (hd2 : Hid (decide (P.li ≤ (P.ks.length : Int)) = true)) :
    Calls Tryz.prog 18 #[.pointer (some ⟨q, 0, none⟩), .string (ba s), .slice a n c] w fun e w' => e = .returned (.int .i64 8) ∧ Lq w F q P w' := by
  have cN := checkName_any (ba s) w (by rw [ba_size]; omega) hT
  rw [ba_list] at cN
  have HH : Hid (LsM w F q mb m P) := h
  have hlen : ts.length = n := hR.len
  rw [h0] at cN
  have cR2 : Hid (∀ w1, Below w.heap.size w w1 → Calls Tryz.prog 41 #[.slice a n c] w1 (fun e w2 => ∃ fa fc, e = .returned (.tuple #[.slice (fa.map fun g => ⟨g, 0, none⟩) n fc, .int .i64 0]) ∧ Hid (RRd w2 (fa, n, fc) (readR ts).1 ∧ (∀ g, fa = some g → w1.heap.size ≤ g) ∧ Below w1.heap.size w1 w2))) := fun w1 hb => (read_any a n c ts w1 (hR.below hb) hn hts (tabs_bel hT hb)).mono (fun e w2 hh => by
    obtain ⟨hA, hB⟩ := hh
    rcases hA with ⟨_, v, rfl, ho⟩ | ⟨hne, _⟩
    · obtain ⟨⟨fa, fn, fc⟩, rfl, hf, hfn, hfb⟩ := RRd.ofOwn ho
      have : fn = n := by rw [← hlen]; exact hfn
      subst this
      exact ⟨fa, fc, rfl, hf, fun g hg => (hfb g hg).1, hB⟩
    · exact absurd h1 hne)
  have HL : Hid (P.ks.length < 900000 ∧ s.length ≤ 1000000) := ⟨hk, hs⟩
  have cH : Hid (∀ w1, LsM w1 F q mb m P → Calls Tryz.prog 29 #[.pointer (some ⟨q, 0, none⟩), .string (ba s)] w1 fun e w' => e = .returned (.bool (P.m s).isSome) ∧ w' = w1) := fun w1 k => has_any s w1 F q mb m P k hs
  generalize (readR ts).1 = rs at *
  clear hR hn hts hk hT h hlen hs h0 h1
  go_enter Tryz.func18, Tryz.ntmps18
  go_upto_region 7 with (first
    | (go_at_call 40; refine cN.mono ?_; clear cN; rintro e w1 ⟨rfl, hb1⟩; have cR := cR2.out w1 hb1; clear cR2)
    | (go_at_call 41; refine cR.mono ?_; clear cR; rintro e w2 ⟨fa, fc, rfl, hf⟩))
  have HB2 : Hid (Below w.heap.size w w2.drew ∧ RRd w2.drew (fa, n, fc) rs ∧ ∀ g, fa = some g → w.heap.size ≤ g) := ⟨(hb1.trans (hf.out.2.2.mono hb1.size)).drew, hf.out.1.keep (S := fun _ => False) (Keep.refl _ _).drew (fun _ _ h => h), fun g hg => Nat.le_trans hb1.size (hf.out.2.1 g hg)⟩
  have HS0 : LsM w2.drew F q mb m P := HH.out.below HB2.out.1
  clear hf hb1
  refine wp_region_lx (fun w' => LsM w' F q mb m P) [] 25 (by kernel_rfl) (by kernel_rfl) ?_
  generalize hfa : (fa.map fun g => (⟨g, 0, none⟩ : Addr)) = fA
  replace hfa : Hid _ := hfa
  generalize w2.drew = X at HB2 HS0 ⊢
  obtain ⟨len, HLn⟩ : ∃ len, Hid (P.ks.length = len) := ⟨_, rfl⟩
  rw [HLn.out] at hd2
  rw [hh] at cH
  refine lx_rd 0 ?vA0 (by kernel_rfl) (fun _ _ d _ _ h => by cases d <;> exact h) (by kernel_rfl) HS0 rfl rfl rfl (fun w' hS => ?hA0) ?_
  case hA0 => first | (go_simp; rfl) | go_simp
  simp only [List.setIfInBounds_toArray, List.set_cons_zero, List.set_cons_succ]
  refine lx_rd 1 (.int .i64 n) (by kernel_rfl) (fun _ _ d _ _ h => by cases d <;> exact h) (by kernel_rfl) HS0 rfl rfl rfl (fun w' hS => ?hA1) ?_
  case hA1 => first | (go_simp; rfl) | go_simp
  simp only [List.setIfInBounds_toArray, List.set_cons_zero, List.set_cons_succ]
  refine lx_rd 2 (.pointer (some ⟨q, 0, none⟩)) (by kernel_rfl) (fun _ _ d _ _ h => by cases d <;> exact h) (by kernel_rfl) HS0 rfl rfl rfl (fun w' hS => ?hA2) ?_
  case hA2 => first | (go_simp; rfl) | go_simp
  simp only [List.setIfInBounds_toArray, List.set_cons_zero, List.set_cons_succ]
  refine lx_rd 3 (.pointer (some ⟨q, 0, none⟩)) (by kernel_rfl) (fun _ _ d _ _ h => by cases d <;> exact h) (by kernel_rfl) HS0 rfl rfl rfl (fun w' hS => ?hA3) ?_
  case hA3 => first | (go_simp; rfl) | go_simp
  simp only [List.setIfInBounds_toArray, List.set_cons_zero, List.set_cons_succ]
  refine lx_rd 4 (.pointer (some ⟨q, 1, none⟩)) (by kernel_rfl) (fun _ _ d _ _ h => by cases d <;> exact h) (by kernel_rfl) HS0 rfl rfl rfl (fun w' hS => ?hA4) ?_
  case hA4 => first | (go_simp; rfl) | go_simp
  simp only [List.setIfInBounds_toArray, List.set_cons_zero, List.set_cons_succ]
  refine lx_rd 5 (.int .i64 P.ru) (by kernel_rfl) (fun _ _ d _ _ h => by cases d <;> exact h) (by kernel_rfl) HS0 rfl rfl rfl (fun w' hS => ?hA5) ?_
  case hA5 => have q0 := hS.c1; first | (go_simp; rfl) | go_simp
  simp only [List.setIfInBounds_toArray, List.set_cons_zero, List.set_cons_succ]
  refine lx_rd 6 (.bool false) (by kernel_rfl) (fun _ _ d _ _ h => by cases d <;> exact h) (by kernel_rfl) HS0 rfl rfl rfl (fun w' hS => ?hA6) ?_
  case hA6 => have q1 := hd1.out; first | (go_simp; rfl) | go_simp
  simp only [List.setIfInBounds_toArray, List.set_cons_zero, List.set_cons_succ]
  refine lx_rd 7 (.bool false) (by kernel_rfl) (fun _ _ d _ _ h => by cases d <;> exact h) (by kernel_rfl) HS0 rfl rfl rfl (fun w' hS => ?hA7) ?_
  case hA7 => first | (go_simp; rfl) | go_simp
  simp only [List.setIfInBounds_toArray, List.set_cons_zero, List.set_cons_succ]
  refine lx_rd 8 ?vB8 (by kernel_rfl) (fun _ _ d _ _ h => by cases d <;> exact h) (by kernel_rfl) HS0 rfl rfl rfl (fun w' hS => ?hB8) ?_
  case hB8 => first | (go_simp; rfl) | go_simp
  simp only [List.setIfInBounds_toArray, List.set_cons_zero, List.set_cons_succ]
  refine lx_rd 9 ?vB9 (by kernel_rfl) (fun _ _ d _ _ h => by cases d <;> exact h) (by kernel_rfl) HS0 rfl rfl rfl (fun w' hS => ?hB9) ?_
  case hB9 => first | (go_simp; rfl) | go_simp
  simp only [List.setIfInBounds_toArray, List.set_cons_zero, List.set_cons_succ]
  refine lx_one 10 (by kernel_rfl) (stepT_call 29 ?ac rfl rfl rfl ?rc ?_)
  case rc => first | (go_simp; rfl) | go_simp
  refine (cH.out X HS0).mono ?_
  rintro e w3 ⟨rfl, hw3⟩
  replace hw3 := hw3.symm
  subst hw3
  refine ⟨_, rfl, fun _ => HS0, ?_⟩
  simp only [lxa, lxb, lxc]
  refine lx_rd 11 (.bool true) (by kernel_rfl) (fun _ _ d _ _ h => by cases d <;> exact h) (by kernel_rfl) HS0 rfl rfl rfl (fun w' hS => ?hF11) ?_
  case hF11 => first | (go_simp; rfl) | go_simp
  simp only [List.setIfInBounds_toArray, List.set_cons_zero, List.set_cons_succ]
  refine lx_rd 12 (.bool true) (by kernel_rfl) (fun _ _ d _ _ h => by cases d <;> exact h) (by kernel_rfl) HS0 rfl rfl rfl (fun w' hS => ?hF12) ?_
  case hF12 => first | (go_simp; rfl) | go_simp
  simp only [List.setIfInBounds_toArray, List.set_cons_zero, List.set_cons_succ]
  refine lx_rd 13 (.pointer (some ⟨q, 0, none⟩)) (by kernel_rfl) (fun _ _ d _ _ h => by cases d <;> exact h) (by kernel_rfl) HS0 rfl rfl rfl (fun w' hS => ?hC13) ?_
  case hC13 => first | (go_simp; rfl) | go_simp
  simp only [List.setIfInBounds_toArray, List.set_cons_zero, List.set_cons_succ]
  refine lx_rd 14 (.pointer (some ⟨q, 0, none⟩)) (by kernel_rfl) (fun _ _ d _ _ h => by cases d <;> exact h) (by kernel_rfl) HS0 rfl rfl rfl (fun w' hS => ?hC14) ?_
  case hC14 => first | (go_simp; rfl) | go_simp
  simp only [List.setIfInBounds_toArray, List.set_cons_zero, List.set_cons_succ]
  refine lx_rd 15 (.pointer (some ⟨q, 3, none⟩)) (by kernel_rfl) (fun _ _ d _ _ h => by cases d <;> exact h) (by kernel_rfl) HS0 rfl rfl rfl (fun w' hS => ?hC15) ?_
  case hC15 => first | (go_simp; rfl) | go_simp
  simp only [List.setIfInBounds_toArray, List.set_cons_zero, List.set_cons_succ]
  refine lx_rd 16 (.map (some mb)) (by kernel_rfl) (fun _ _ d _ _ h => by cases d <;> exact h) (by kernel_rfl) HS0 rfl rfl rfl (fun w' hS => ?hC16) ?_
  case hC16 => have q0 := hS.c3; first | (go_simp; rfl) | go_simp
  simp only [List.setIfInBounds_toArray, List.set_cons_zero, List.set_cons_succ]
  refine lx_rd 17 (.int .i64 len) (by kernel_rfl) (fun _ _ d _ _ h => by cases d <;> exact h) (by kernel_rfl) HS0 rfl rfl rfl (fun w' hS => ?hC17) ?_
  case hC17 => have p := fun ty => hS.map.len P.ks hS.nd hS.hmem ty; rw [HLn.out] at p; first | (go_simp; rfl) | go_simp
  simp only [List.setIfInBounds_toArray, List.set_cons_zero, List.set_cons_succ]
  refine lx_rd 18 (.pointer (some ⟨q, 0, none⟩)) (by kernel_rfl) (fun _ _ d _ _ h => by cases d <;> exact h) (by kernel_rfl) HS0 rfl rfl rfl (fun w' hS => ?hC18) ?_
  case hC18 => first | (go_simp; rfl) | go_simp
  simp only [List.setIfInBounds_toArray, List.set_cons_zero, List.set_cons_succ]
  refine lx_rd 19 (.pointer (some ⟨q, 0, none⟩)) (by kernel_rfl) (fun _ _ d _ _ h => by cases d <;> exact h) (by kernel_rfl) HS0 rfl rfl rfl (fun w' hS => ?hC19) ?_
  case hC19 => first | (go_simp; rfl) | go_simp
  simp only [List.setIfInBounds_toArray, List.set_cons_zero, List.set_cons_succ]
  refine lx_rd 20 (.pointer (some ⟨q, 0, none⟩)) (by kernel_rfl) (fun _ _ d _ _ h => by cases d <;> exact h) (by kernel_rfl) HS0 rfl rfl rfl (fun w' hS => ?hC20) ?_
  case hC20 => first | (go_simp; rfl) | go_simp
  simp only [List.setIfInBounds_toArray, List.set_cons_zero, List.set_cons_succ]
  refine lx_rd 21 (.int .i64 P.li) (by kernel_rfl) (fun _ _ d _ _ h => by cases d <;> exact h) (by kernel_rfl) HS0 rfl rfl rfl (fun w' hS => ?hC21) ?_
  case hC21 => have q0 := hS.c0; first | (go_simp; rfl) | go_simp
  simp only [List.setIfInBounds_toArray, List.set_cons_zero, List.set_cons_succ]
  refine lx_rd 22 (.bool true) (by kernel_rfl) (fun _ _ d _ _ h => by cases d <;> exact h) (by kernel_rfl) HS0 rfl rfl rfl (fun w' hS => ?hC22) ?_
  case hC22 => have q1 := hd2.out; first | (go_simp; rfl) | go_simp
  simp only [List.setIfInBounds_toArray, List.set_cons_zero, List.set_cons_succ]
  refine lx_rd 23 (.bool true) (by kernel_rfl) (fun _ _ d _ _ h => by cases d <;> exact h) (by kernel_rfl) HS0 rfl rfl rfl (fun w' hS => ?hC23) ?_
  case hC23 => first | (go_simp; rfl) | go_simp
  simp only [List.setIfInBounds_toArray, List.set_cons_zero, List.set_cons_succ]
  refine lx_rd 24 (.bool true) (by kernel_rfl) (fun _ _ d _ _ h => by cases d <;> exact h) (by kernel_rfl) HS0 rfl rfl rfl (fun w' hS => ?hC24) ?_
  case hC24 => first | (go_simp; rfl) | go_simp
  simp only [List.setIfInBounds_toArray, List.set_cons_zero, List.set_cons_succ]
  refine lx_nil (by kernel_rfl) ?_
  clear HS0 cH
  go_wp2
  go_ret
  exact ⟨rfl, Lq.ofBelow ⟨mb, m, HH.out⟩ HB2.out.1⟩
set_option maxHeartbeats 1600000 in
theorem set_6 (s : By) (a : Option Addr) (n c : Nat) (ts : List By) (w : World) (F : Nat → Prop) (q mb : Nat) (m : By → Option Rw) (P : Pl) (h : LsM w F q mb m P) (hs : s.length ≤ 1000000) (hR : TRd w a n c ts) (hn : n ≤ 100000) (hts : ∀ t ∈ ts, t.length ≤ 2000000) (hk : P.ks.length < 900000) (hT : Lib.Utf8Tabs 0 1 w) (h0 : nameE s = 0) (h1 : (readR ts).2 = 0) (hd1 : Hid (decide (P.ru < (n : Int)) = false)) (hh : (P.m s).isSome = false) (hd2 : Hid (decide (P.li ≤ (P.ks.length : Int)) = false)) :
    Calls Tryz.prog 18 #[.pointer (some ⟨q, 0, none⟩), .string (ba s), .slice a n c] w fun e w' => e = .returned (.int .i64 0) ∧ Lq w F q (putP P s (readR ts).1) w' := by
  have cN := checkName_any (ba s) w (by rw [ba_size]; omega) hT
  rw [ba_list] at cN
  have HH : Hid (LsM w F q mb m P) := h
  have hlen : ts.length = n := hR.len
  rw [h0] at cN
  have cR2 : Hid (∀ w1, Below w.heap.size w w1 → Calls Tryz.prog 41 #[.slice a n c] w1 (fun e w2 => ∃ fa fc, e = .returned (.tuple #[.slice (fa.map fun g => ⟨g, 0, none⟩) n fc, .int .i64 0]) ∧ Hid (RRd w2 (fa, n, fc) (readR ts).1 ∧ (∀ g, fa = some g → w1.heap.size ≤ g) ∧ Below w1.heap.size w1 w2))) := fun w1 hb => (read_any a n c ts w1 (hR.below hb) hn hts (tabs_bel hT hb)).mono (fun e w2 hh => by
    obtain ⟨hA, hB⟩ := hh
    rcases hA with ⟨_, v, rfl, ho⟩ | ⟨hne, _⟩
    · obtain ⟨⟨fa, fn, fc⟩, rfl, hf, hfn, hfb⟩ := RRd.ofOwn ho
      have : fn = n := by rw [← hlen]; exact hfn
      subst this
      exact ⟨fa, fc, rfl, hf, fun g hg => (hfb g hg).1, hB⟩
    · exact absurd h1 hne)
  have HL : Hid (P.ks.length < 900000 ∧ s.length ≤ 1000000) := ⟨hk, hs⟩
  have cH : Hid (∀ w1, LsM w1 F q mb m P → Calls Tryz.prog 29 #[.pointer (some ⟨q, 0, none⟩), .string (ba s)] w1 fun e w' => e = .returned (.bool (P.m s).isSome) ∧ w' = w1) := fun w1 k => has_any s w1 F q mb m P k hs
  generalize (readR ts).1 = rs at *
  clear hR hn hts hk hT h hlen hs h0 h1
  go_enter Tryz.func18, Tryz.ntmps18
  go_upto_region 7 with (first
    | (go_at_call 40; refine cN.mono ?_; clear cN; rintro e w1 ⟨rfl, hb1⟩; have cR := cR2.out w1 hb1; clear cR2)
    | (go_at_call 41; refine cR.mono ?_; clear cR; rintro e w2 ⟨fa, fc, rfl, hf⟩))
  have HB2 : Hid (Below w.heap.size w w2.drew ∧ RRd w2.drew (fa, n, fc) rs ∧ ∀ g, fa = some g → w.heap.size ≤ g) := ⟨(hb1.trans (hf.out.2.2.mono hb1.size)).drew, hf.out.1.keep (S := fun _ => False) (Keep.refl _ _).drew (fun _ _ h => h), fun g hg => Nat.le_trans hb1.size (hf.out.2.1 g hg)⟩
  have HS0 : LsM w2.drew F q mb m P := HH.out.below HB2.out.1
  clear hf hb1
  refine wp_region_lx (fun w' => LsM w' F q mb m P) [] 25 (by kernel_rfl) (by kernel_rfl) ?_
  generalize hfa : (fa.map fun g => (⟨g, 0, none⟩ : Addr)) = fA
  replace hfa : Hid _ := hfa
  generalize w2.drew = X at HB2 HS0 ⊢
  obtain ⟨len, HLn⟩ : ∃ len, Hid (P.ks.length = len) := ⟨_, rfl⟩
  rw [HLn.out] at hd2
  rw [hh] at cH
  refine lx_rd 0 ?vA0 (by kernel_rfl) (fun _ _ d _ _ h => by cases d <;> exact h) (by kernel_rfl) HS0 rfl rfl rfl (fun w' hS => ?hA0) ?_
  case hA0 => first | (go_simp; rfl) | go_simp
  simp only [List.setIfInBounds_toArray, List.set_cons_zero, List.set_cons_succ]
  refine lx_rd 1 (.int .i64 n) (by kernel_rfl) (fun _ _ d _ _ h => by cases d <;> exact h) (by kernel_rfl) HS0 rfl rfl rfl (fun w' hS => ?hA1) ?_
  case hA1 => first | (go_simp; rfl) | go_simp
  simp only [List.setIfInBounds_toArray, List.set_cons_zero, List.set_cons_succ]
  refine lx_rd 2 (.pointer (some ⟨q, 0, none⟩)) (by kernel_rfl) (fun _ _ d _ _ h => by cases d <;> exact h) (by kernel_rfl) HS0 rfl rfl rfl (fun w' hS => ?hA2) ?_
  case hA2 => first | (go_simp; rfl) | go_simp
  simp only [List.setIfInBounds_toArray, List.set_cons_zero, List.set_cons_succ]
  refine lx_rd 3 (.pointer (some ⟨q, 0, none⟩)) (by kernel_rfl) (fun _ _ d _ _ h => by cases d <;> exact h) (by kernel_rfl) HS0 rfl rfl rfl (fun w' hS => ?hA3) ?_
  case hA3 => first | (go_simp; rfl) | go_simp
  simp only [List.setIfInBounds_toArray, List.set_cons_zero, List.set_cons_succ]
  refine lx_rd 4 (.pointer (some ⟨q, 1, none⟩)) (by kernel_rfl) (fun _ _ d _ _ h => by cases d <;> exact h) (by kernel_rfl) HS0 rfl rfl rfl (fun w' hS => ?hA4) ?_
  case hA4 => first | (go_simp; rfl) | go_simp
  simp only [List.setIfInBounds_toArray, List.set_cons_zero, List.set_cons_succ]
  refine lx_rd 5 (.int .i64 P.ru) (by kernel_rfl) (fun _ _ d _ _ h => by cases d <;> exact h) (by kernel_rfl) HS0 rfl rfl rfl (fun w' hS => ?hA5) ?_
  case hA5 => have q0 := hS.c1; first | (go_simp; rfl) | go_simp
  simp only [List.setIfInBounds_toArray, List.set_cons_zero, List.set_cons_succ]
  refine lx_rd 6 (.bool false) (by kernel_rfl) (fun _ _ d _ _ h => by cases d <;> exact h) (by kernel_rfl) HS0 rfl rfl rfl (fun w' hS => ?hA6) ?_
  case hA6 => have q1 := hd1.out; first | (go_simp; rfl) | go_simp
  simp only [List.setIfInBounds_toArray, List.set_cons_zero, List.set_cons_succ]
  refine lx_rd 7 (.bool false) (by kernel_rfl) (fun _ _ d _ _ h => by cases d <;> exact h) (by kernel_rfl) HS0 rfl rfl rfl (fun w' hS => ?hA7) ?_
  case hA7 => first | (go_simp; rfl) | go_simp
  simp only [List.setIfInBounds_toArray, List.set_cons_zero, List.set_cons_succ]
  refine lx_rd 8 ?vB8 (by kernel_rfl) (fun _ _ d _ _ h => by cases d <;> exact h) (by kernel_rfl) HS0 rfl rfl rfl (fun w' hS => ?hB8) ?_
  case hB8 => first | (go_simp; rfl) | go_simp
  simp only [List.setIfInBounds_toArray, List.set_cons_zero, List.set_cons_succ]
  refine lx_rd 9 ?vB9 (by kernel_rfl) (fun _ _ d _ _ h => by cases d <;> exact h) (by kernel_rfl) HS0 rfl rfl rfl (fun w' hS => ?hB9) ?_
  case hB9 => first | (go_simp; rfl) | go_simp
  simp only [List.setIfInBounds_toArray, List.set_cons_zero, List.set_cons_succ]
  refine lx_one 10 (by kernel_rfl) (stepT_call 29 ?ac rfl rfl rfl ?rc ?_)
  case rc => first | (go_simp; rfl) | go_simp
  refine (cH.out X HS0).mono ?_
  rintro e w3 ⟨rfl, hw3⟩
  replace hw3 := hw3.symm
  subst hw3
  refine ⟨_, rfl, fun _ => HS0, ?_⟩
  simp only [lxa, lxb, lxc]
  refine lx_rd 11 (.bool true) (by kernel_rfl) (fun _ _ d _ _ h => by cases d <;> exact h) (by kernel_rfl) HS0 rfl rfl rfl (fun w' hS => ?hF11) ?_
  case hF11 => first | (go_simp; rfl) | go_simp
  simp only [List.setIfInBounds_toArray, List.set_cons_zero, List.set_cons_succ]
  refine lx_rd 12 (.bool true) (by kernel_rfl) (fun _ _ d _ _ h => by cases d <;> exact h) (by kernel_rfl) HS0 rfl rfl rfl (fun w' hS => ?hF12) ?_
  case hF12 => first | (go_simp; rfl) | go_simp
  simp only [List.setIfInBounds_toArray, List.set_cons_zero, List.set_cons_succ]
  refine lx_rd 13 (.pointer (some ⟨q, 0, none⟩)) (by kernel_rfl) (fun _ _ d _ _ h => by cases d <;> exact h) (by kernel_rfl) HS0 rfl rfl rfl (fun w' hS => ?hC13) ?_
  case hC13 => first | (go_simp; rfl) | go_simp
  simp only [List.setIfInBounds_toArray, List.set_cons_zero, List.set_cons_succ]
  refine lx_rd 14 (.pointer (some ⟨q, 0, none⟩)) (by kernel_rfl) (fun _ _ d _ _ h => by cases d <;> exact h) (by kernel_rfl) HS0 rfl rfl rfl (fun w' hS => ?hC14) ?_
  case hC14 => first | (go_simp; rfl) | go_simp
  simp only [List.setIfInBounds_toArray, List.set_cons_zero, List.set_cons_succ]
  refine lx_rd 15 (.pointer (some ⟨q, 3, none⟩)) (by kernel_rfl) (fun _ _ d _ _ h => by cases d <;> exact h) (by kernel_rfl) HS0 rfl rfl rfl (fun w' hS => ?hC15) ?_
  case hC15 => first | (go_simp; rfl) | go_simp
  simp only [List.setIfInBounds_toArray, List.set_cons_zero, List.set_cons_succ]
  refine lx_rd 16 (.map (some mb)) (by kernel_rfl) (fun _ _ d _ _ h => by cases d <;> exact h) (by kernel_rfl) HS0 rfl rfl rfl (fun w' hS => ?hC16) ?_
  case hC16 => have q0 := hS.c3; first | (go_simp; rfl) | go_simp
  simp only [List.setIfInBounds_toArray, List.set_cons_zero, List.set_cons_succ]
  refine lx_rd 17 (.int .i64 len) (by kernel_rfl) (fun _ _ d _ _ h => by cases d <;> exact h) (by kernel_rfl) HS0 rfl rfl rfl (fun w' hS => ?hC17) ?_
  case hC17 => have p := fun ty => hS.map.len P.ks hS.nd hS.hmem ty; rw [HLn.out] at p; first | (go_simp; rfl) | go_simp
  simp only [List.setIfInBounds_toArray, List.set_cons_zero, List.set_cons_succ]
  refine lx_rd 18 (.pointer (some ⟨q, 0, none⟩)) (by kernel_rfl) (fun _ _ d _ _ h => by cases d <;> exact h) (by kernel_rfl) HS0 rfl rfl rfl (fun w' hS => ?hC18) ?_
  case hC18 => first | (go_simp; rfl) | go_simp
  simp only [List.setIfInBounds_toArray, List.set_cons_zero, List.set_cons_succ]
  refine lx_rd 19 (.pointer (some ⟨q, 0, none⟩)) (by kernel_rfl) (fun _ _ d _ _ h => by cases d <;> exact h) (by kernel_rfl) HS0 rfl rfl rfl (fun w' hS => ?hC19) ?_
  case hC19 => first | (go_simp; rfl) | go_simp
  simp only [List.setIfInBounds_toArray, List.set_cons_zero, List.set_cons_succ]
  refine lx_rd 20 (.pointer (some ⟨q, 0, none⟩)) (by kernel_rfl) (fun _ _ d _ _ h => by cases d <;> exact h) (by kernel_rfl) HS0 rfl rfl rfl (fun w' hS => ?hC20) ?_
  case hC20 => first | (go_simp; rfl) | go_simp
  simp only [List.setIfInBounds_toArray, List.set_cons_zero, List.set_cons_succ]
  refine lx_rd 21 (.int .i64 P.li) (by kernel_rfl) (fun _ _ d _ _ h => by cases d <;> exact h) (by kernel_rfl) HS0 rfl rfl rfl (fun w' hS => ?hC21) ?_
  case hC21 => have q0 := hS.c0; first | (go_simp; rfl) | go_simp
  simp only [List.setIfInBounds_toArray, List.set_cons_zero, List.set_cons_succ]
  refine lx_rd 22 (.bool false) (by kernel_rfl) (fun _ _ d _ _ h => by cases d <;> exact h) (by kernel_rfl) HS0 rfl rfl rfl (fun w' hS => ?hC22) ?_
  case hC22 => have q1 := hd2.out; first | (go_simp; rfl) | go_simp
  simp only [List.setIfInBounds_toArray, List.set_cons_zero, List.set_cons_succ]
  refine lx_rd 23 (.bool false) (by kernel_rfl) (fun _ _ d _ _ h => by cases d <;> exact h) (by kernel_rfl) HS0 rfl rfl rfl (fun w' hS => ?hC23) ?_
  case hC23 => first | (go_simp; rfl) | go_simp
  simp only [List.setIfInBounds_toArray, List.set_cons_zero, List.set_cons_succ]
  refine lx_rd 24 (.bool false) (by kernel_rfl) (fun _ _ d _ _ h => by cases d <;> exact h) (by kernel_rfl) HS0 rfl rfl rfl (fun w' hS => ?hC24) ?_
  case hC24 => first | (go_simp; rfl) | go_simp
  simp only [List.setIfInBounds_toArray, List.set_cons_zero, List.set_cons_succ]
  refine lx_nil (by kernel_rfl) ?_
  go_upto_region 9 with fail
  have HB3 : Hid (Below w.heap.size w X.drew ∧ RRd X.drew (fa, n, fc) rs ∧ ∀ g, fa = some g → w.heap.size ≤ g) := ⟨HB2.out.1.drew, HB2.out.2.1.keep (S := fun _ => False) (Keep.refl _ _).drew (fun _ _ h => h), HB2.out.2.2⟩
  have HS1 : LsM X.drew F q mb m P := HS0.keep (S := fun _ => False) (Keep.refl _ _).drew (fun _ _ h => h)
  clear HS0 HB2 cH
  refine wp_region_lx (fun w' => LsM w' F q mb m P) [7] 8 (by kernel_rfl) (by kernel_rfl) ?_
  generalize X.drew = Y at HB3 HS1 ⊢
  refine lx_rd 0 (.pointer (some ⟨q, 0, none⟩)) (by kernel_rfl) (fun _ _ d _ _ h => by cases d <;> exact h) (by kernel_rfl) HS1 rfl rfl rfl (fun w' hS => ?hD0) ?_
  case hD0 => first | (go_simp; rfl) | go_simp
  simp only [List.setIfInBounds_toArray, List.set_cons_zero, List.set_cons_succ]
  refine lx_rd 1 (.pointer (some ⟨q, 0, none⟩)) (by kernel_rfl) (fun _ _ d _ _ h => by cases d <;> exact h) (by kernel_rfl) HS1 rfl rfl rfl (fun w' hS => ?hD1) ?_
  case hD1 => first | (go_simp; rfl) | go_simp
  simp only [List.setIfInBounds_toArray, List.set_cons_zero, List.set_cons_succ]
  refine lx_rd 2 (.pointer (some ⟨q, 3, none⟩)) (by kernel_rfl) (fun _ _ d _ _ h => by cases d <;> exact h) (by kernel_rfl) HS1 rfl rfl rfl (fun w' hS => ?hD2) ?_
  case hD2 => first | (go_simp; rfl) | go_simp
  simp only [List.setIfInBounds_toArray, List.set_cons_zero, List.set_cons_succ]
  refine lx_rd 3 (.map (some mb)) (by kernel_rfl) (fun _ _ d _ _ h => by cases d <;> exact h) (by kernel_rfl) HS1 rfl rfl rfl (fun w' hS => ?hD3) ?_
  case hD3 => have q0 := hS.c3; first | (go_simp; rfl) | go_simp
  simp only [List.setIfInBounds_toArray, List.set_cons_zero, List.set_cons_succ]
  refine lx_rd 4 (.string (ba s)) (by kernel_rfl) (fun _ _ d _ _ h => by cases d <;> exact h) (by kernel_rfl) HS1 rfl rfl rfl (fun w' hS => ?hD4) ?_
  case hD4 => first | (go_simp; rfl) | go_simp
  simp only [List.setIfInBounds_toArray, List.set_cons_zero, List.set_cons_succ]
  refine lx_rd 6 ?vD6 (by kernel_rfl) (fun _ _ d _ _ h => by cases d <;> exact h) (by kernel_rfl) HS1 rfl rfl rfl (fun w' hS => ?hD6) ?_
  case hD6 => first | (go_simp; rfl) | go_simp
  simp only [List.setIfInBounds_toArray, List.set_cons_zero, List.set_cons_succ]
  refine lx_one 5 (by kernel_rfl) (stepT_call 31 ?ad rfl rfl rfl ?rd ?_)
  case rd => first | (go_simp; rfl) | go_simp
  refine (clone_any (ba s) Y (by rw [ba_size]; have := HL.out.2; omega)).mono ?_
  rintro e w4 ⟨rfl, hb4⟩
  refine ⟨_, rfl, fun _ => HS1.below hb4, ?_⟩
  simp only [lxa, lxb, lxc]
  have hm4 := (HS1.below hb4).map
  obtain ⟨w5, hr5, hm5, hk5⟩ := hm4.store (by have := HL.out.1; omega) s (by have := HL.out.2; unfold maxLen; omega) (fa, n, fc)
  refine lx_one 7 (by kernel_rfl) (stepT_store (w' := w5) rfl rfl rfl ?cd (fun h => by cases h) ?_)
  case cd => exact exec_mapput (.tmp 51) (.tmp 53) (.tmp 54) rfl mb rfl (ba s) rfl (rsl (fa, n, fc)) (by rw [show rsl (fa, n, fc) = .slice fA n fc from by unfold rsl; rw [hfa.out]]; rfl) hr5
  refine lx_nil (by kernel_rfl) ?_
  have HQ : Hid (Lq w F q (putP P s rs) w5) := HH.out.put (w1 := w4) (HB3.out.1.trans (hb4.mono HB3.out.1.size)) s (fa, n, fc) rs (HB3.out.2.1.below hb4) HB3.out.2.2 hm5 hk5
  clear HS1 hm4 hm5 hk5 hr5 HB3 hb4
  go_wp2
  go_ret
  exact ⟨rfl, HQ.out⟩
theorem set_any (s : By) (a : Option Addr) (n c : Nat) (ts : List By) (w : World) (F : Nat → Prop) (q : Nat) (P : Pl) (h : LsAt w F q P) (hs : s.length ≤ 1000000) (hR : TRd w a n c ts) (hn : n ≤ 100000) (hts : ∀ t ∈ ts, t.length ≤ 2000000) (hk : P.ks.length < 900000) (hT : Lib.Utf8Tabs 0 1 w) :
    Calls Tryz.prog 18 #[.pointer (some ⟨q, 0, none⟩), .string (ba s), .slice a n c] w fun e w' => e = .returned (.int .i64 ((setR P s ts).1 : Nat)) ∧ Lq w F q (setR P s ts).2 w' := by
  obtain ⟨mb, m, h⟩ := h
  have hlen : ts.length = n := hR.len
  unfold setR
  rw [hlen]
  by_cases h0 : nameE s = 0
  · rw [if_neg (by simp [h0])]
    by_cases h1 : (readR ts).2 = 0
    · rw [if_neg (by simp [h1])]
      unfold fullR
      cases hd1 : decide (P.ru < (n : Int)) with
      | true => exact set_3 s a n c ts w F q mb m P h hs hR hn hts hk hT h0 h1 hd1
      | false =>
        cases hh : (P.m s).isSome with
        | true => exact set_4 s a n c ts w F q mb m P h hs hR hn hts hk hT h0 h1 hd1 hh
        | false =>
          cases hd2 : decide (P.li ≤ (P.ks.length : Int)) with
          | true => exact set_5 s a n c ts w F q mb m P h hs hR hn hts hk hT h0 h1 hd1 hh hd2
          | false => exact set_6 s a n c ts w F q mb m P h hs hR hn hts hk hT h0 h1 hd1 hh hd2
    · rw [if_pos h1]
      exact set_2 s a n c ts w F q mb m P h hs hR hn hts hT h0 h1
  · rw [if_pos h0]
    exact set_1 s a n c w F q mb m P h hs hT h0
end Go.Proofs.YtiplalbicibahaaGreatDoor

/- privacy: Drop; the document's runs. -/
set_option maxRecDepth 100000
namespace Go.Proofs.YtiplalbicibahaaGreatDoor
open Go.RowKit Go.Joins Go.Shelf

theorem setR_us (P : Pl) (s : By) (ts : List By) : (setR P s ts).2.us = P.us := by
  unfold setR
  split
  · rfl
  · split
    · rfl
    · split
      · rfl
      · rfl
def dropK (ks : List By) (s : By) : List By := ks.filter (fun k => !(k == s))
def dropP (P : Pl) (s : By) : Pl := { P with ks := dropK P.ks s, m := putM P.m s none }
def dropR (P : Pl) (s : By) : Nat × Pl := if (P.m s).isSome = false then (7, P) else if (s == P.us) = true then (9, P) else (0, dropP P s)
theorem LsM.drop {w w' : World} {F : Nat → Prop} {q mb : Nat} {m : By → Option Rw} {P : Pl} (h : LsM w F q mb m P) (s : By)
    (hm : RMap w' mb P.ks.length (putM m s none)) (hk : Keep (fun i => i = mb) w w') : LsM w' F q mb (putM m s none) (dropP P s) := by
  have hks : (dropP P s).ks.Nodup := h.nd.filter _
  have hmem : ∀ u, ((dropP P s).m u).isSome = true ↔ u ∈ (dropP P s).ks := fun u => by
    unfold dropP dropK
    dsimp only
    by_cases hu : u = s
    · subst hu; rw [putM_same]; simp
    · rw [putM_other _ _ hu, h.mem u]; simp [hu]
  have htie : ∀ u, TieR w' F (putM m s none u) ((dropP P s).m u) := fun u => by
    unfold dropP
    dsimp only
    by_cases hu : u = s
    · subst hu; rw [putM_same, putM_same]; trivial
    · rw [putM_other _ _ hu, putM_other _ _ hu]
      exact (h.tie u).keep hk (fun f g hf hg e => (h.row hf hg).2 e) (fun i hi => hi)
  exact ⟨box_keep h.blk hk (fun e => h.ne e), hm.tight _ hks (fun u => by rw [(htie u).isSome]; exact hmem u), h.fq, h.fm, htie, fun i hi => Nat.lt_of_lt_of_le (h.lt i hi) hk.size, hks, hmem⟩
/-- 'delete(m, k)' at its place in the walk. -/
theorem wp_delM {w : World} {ops : Array Oper} {rest : List Oper} {o : Oper} {a : Act} {Q : Exit → Act → World → Prop} (hgd : o.guard = none) (p x : Operand) (ho : o.op = .call { callee := .builtin .delete, args := #[p, x], argTypes := #[52, 9] })
    (b n : Nat) (m : By → Option Rw) (hp : a.eval p = .map (some b)) (h : RMap w b n m) (s : By) (hs : s.length ≤ maxLen) (hx : a.eval x = .string (ba s))
    (K : ∀ w', RMap w' b n (putM m s none) → Keep (fun k => k = b) w w' → wpList Tryz.prog ops Q rest (a.put o.dst (.tuple #[])) w') : wpList Tryz.prog ops Q (o :: rest) a w := by
  refine wpList_plain hgd fun K' hK' => ?_
  obtain ⟨w', hrun, r1, r2⟩ := h.drop s hs o.type
  unfold Oper.wp
  simp [execOp, ho, resolve, invoke, builtin, hp, hx, hrun, Result.andThen]
  exact hK' _ _ (K w' r1 r2)

set_option maxHeartbeats 1600000 in
theorem drop_any (s : By) (w : World) (F : Nat → Prop) (q : Nat) (P : Pl) (h : LsAt w F q P) (hs : s.length ≤ 1000000) :
    Calls Tryz.prog 23 #[.pointer (some ⟨q, 0, none⟩), .string (ba s)] w fun e w' => e = .returned (.int .i64 ((dropR P s).1 : Nat)) ∧ LsAt w' F q (dropR P s).2 ∧ Keep F w w' := by
  obtain ⟨mb, m, h⟩ := h
  have cH := has_any s w F q mb m P h hs
  have c2 := h.c2
  have c3 := h.c3
  have HH : Hid (LsM w F q mb m P ∧ s.length ≤ 1000000) := ⟨h, hs⟩
  have e1 : ((ba s).toList == (ba P.us).toList) = (s == P.us) := by rw [ba_eq, Lib.toList_data, ba_list]
  unfold dropR
  clear h hs
  generalize (s == P.us) = b1 at e1 ⊢
  cases hb : (P.m s).isSome with
  | false =>
    rw [hb] at cH
    rw [if_pos rfl]
    clear hb e1
    go_enter Tryz.func23, Tryz.ntmps23
    go_wp2_with (go_at_call 29; refine cH.mono ?_; clear cH; rintro e w1 ⟨rfl, hw1⟩; replace hw1 := hw1.symm; subst hw1)
    go_ret
    exact ⟨rfl, ⟨mb, m, HH.out.1⟩, Keep.refl _ _⟩
  | true =>
    rw [hb] at cH
    rw [if_neg (by decide)]
    clear hb
    cases b1 with
    | true =>
      rw [if_pos rfl]
      go_enter Tryz.func23, Tryz.ntmps23
      go_wp2_with (go_at_call 29; refine cH.mono ?_; clear cH; rintro e w1 ⟨rfl, hw1⟩; replace hw1 := hw1.symm; subst hw1)
      go_ret
      exact ⟨rfl, ⟨mb, m, HH.out.1⟩, Keep.refl _ _⟩
    | false =>
      rw [if_neg (by decide)]
      go_enter Tryz.func23, Tryz.ntmps23
      go_wp2_with (first
        | (go_at_call 29; refine cH.mono ?_; clear cH; rintro e w1 ⟨rfl, hw1⟩; replace hw1 := hw1.symm; subst hw1)
        | (at_delete; (refine wp_delM rfl (.tmp 18) (.tmp 19) rfl mb _ m rfl HH.out.1.map s (by have := HH.out.2; unfold maxLen; omega) rfl ?_; intro w5 hm5 hk5)))
      go_ret
      exact ⟨rfl, ⟨mb, putM m s none, HH.out.1.drop s hm5 hk5⟩, hk5.mono (fun i e => by rw [e]; exact HH.out.1.fm)⟩

/-! ### the document's runs -/
theorem TRd.block {w : World} {g : Nat} {ts : List By} (h : w.heap[g]? = some (.cells (tc ts).toArray 9 (0, 0))) (hl : ts.length ≤ 1000000) : TRd w (some ⟨g, 0, none⟩) ts.length ts.length ts := by
  refine ⟨rfl, Nat.le_refl _, by unfold maxLen; omega, fun _ => ⟨g, 0, rfl, fun j hj => ?_⟩, fun e => by cases e⟩
  rw [Nat.zero_add, cell_of_block h, List.getElem?_toArray]
  simp [tc, List.getD, List.getElem?_eq_getElem hj]
def wk1 : By := [100, 101, 110, 121, 32, 105, 110, 32, 106, 105, 100, 32, 66, 111, 98]
def wk2 : By := [97, 108, 108, 111, 119, 32, 105, 110, 32, 97, 108, 108]
def wkP : Pl := (setR (pl0 2 5) [97] [wk1, wk2]).2
theorem wk_set : (setR (pl0 2 5) [97] [wk1, wk2]).1 = 0 := by decide +kernel
theorem wk_a : allowsR ⟨true, [98, 111, 98], [], []⟩ (heldR wkP [97]) = false := by decide +kernel
theorem wk_b : allowsR ⟨true, [99, 121, 100], [], []⟩ (heldR wkP [97]) = true := by decide +kernel
theorem wk_c : allowsR ⟨true, [98, 111, 98], [], []⟩ (heldR wkP []) = true := by decide +kernel
theorem wk_d : (dropR wkP [98]).1 = 7 := by decide +kernel
theorem wk_l (s : By) : (heldR wkP s).length ≤ 100000 := by
  have h : ∀ u, ((wkP.m u).getD []).length ≤ 100000 := fun u => by
    have e : wkP = putP (pl0 2 5) [97] (readR [wk1, wk2]).1 := by
      unfold wkP setR
      rw [if_neg (by decide +kernel), if_neg (by decide +kernel), if_neg (by decide +kernel)]
    rw [e]
    unfold putP
    dsimp only
    by_cases hu : u = [97]
    · subst hu; rw [putM_same]; show (readR [wk1, wk2]).1.length ≤ 100000; decide +kernel
    · rw [putM_other _ _ hu]; exact Nat.zero_le _
  exact h _
set_option maxHeartbeats 1600000 in
theorem wakes_any (w : World) (hT : Lib.Utf8Tabs 0 1 w) : Calls Tryz.prog 8 #[] w fun e w' => e = .returned (.bool true) ∧ Below w.heap.size w w' := by
  have cN := new_ok 2 5 w (by decide) (by decide)
  have cS : ∀ w1 F, LsAt w1 F (w.heap.size + 1) (pl0 2 5) → Below w.heap.size w w1 → Calls Tryz.prog 18 #[.pointer (some ⟨w.heap.size + 1, 0, none⟩), .string ⟨#[97]⟩, .slice (some ⟨w1.heap.size, 0, none⟩) 2 2] (w1.alloc (.cells #[.string ⟨#[100, 101, 110, 121, 32, 105, 110, 32, 106, 105, 100, 32, 66, 111, 98]⟩, .string ⟨#[97, 108, 108, 111, 119, 32, 105, 110, 32, 97, 108, 108]⟩] 9)) fun e w' => e = .returned (.int .i64 0) ∧ Hid (Lq (w1.alloc (.cells #[.string ⟨#[100, 101, 110, 121, 32, 105, 110, 32, 106, 105, 100, 32, 66, 111, 98]⟩, .string ⟨#[97, 108, 108, 111, 119, 32, 105, 110, 32, 97, 108, 108]⟩] 9)) F (w.heap.size + 1) wkP w') := fun w1 F hL hb => by
    have hx := set_any [97] (some ⟨w1.heap.size, 0, none⟩) 2 2 [wk1, wk2] (w1.alloc (.cells #[.string ⟨#[100, 101, 110, 121, 32, 105, 110, 32, 106, 105, 100, 32, 66, 111, 98]⟩, .string ⟨#[97, 108, 108, 111, 119, 32, 105, 110, 32, 97, 108, 108]⟩] 9)) F (w.heap.size + 1) (pl0 2 5) (hL.below (below1 _ _)) (by decide) (TRd.block (ts := [wk1, wk2]) (push_at _ _ rfl) (by decide)) (by decide) (fun t ht => by
        rcases List.mem_cons.1 ht with e | e
        · rw [e]; decide
        · have : t = wk2 := by simpa using e
          rw [this]; decide) (by show 0 < 900000; decide) (tabs_bel hT (hb.trans ((below1 w1 _).mono hb.size)))
    rw [wk_set] at hx
    exact hx
  have cA : ∀ w1 F (s c : By), LsAt w1 F (w.heap.size + 1) wkP → s.length ≤ 1000000 → Calls Tryz.prog 22 #[.pointer (some ⟨w.heap.size + 1, 0, none⟩), .string (ba s), .bool true, .string (ba c), .slice none 0 0, .string ⟨#[]⟩] w1 fun e w' => e = .returned (.bool (allowsR ⟨true, c, [], []⟩ (heldR wkP s))) ∧ Below w1.heap.size w1 w' := fun w1 F s c hL hs =>
    allows_any s ⟨true, c, [], []⟩ none 0 0 w1 F (w.heap.size + 1) wkP hL hs (by unfold wkP; rw [setR_us]; decide) (TRd.nil w1) (Nat.zero_le _) (wk_l s)
  have cA1 : ∀ w1 F, LsAt w1 F (w.heap.size + 1) wkP → Calls Tryz.prog 22 #[.pointer (some ⟨w.heap.size + 1, 0, none⟩), .string ⟨#[97]⟩, .bool true, .string ⟨#[98, 111, 98]⟩, .slice none 0 0, .string ⟨#[]⟩] w1 fun e w' => e = .returned (.bool false) ∧ Below w1.heap.size w1 w' := fun w1 F hL => by
    have := cA w1 F [97] [98, 111, 98] hL (by decide); rw [wk_a] at this; exact this
  have cA2 : ∀ w1 F, LsAt w1 F (w.heap.size + 1) wkP → Calls Tryz.prog 22 #[.pointer (some ⟨w.heap.size + 1, 0, none⟩), .string ⟨#[97]⟩, .bool true, .string ⟨#[99, 121, 100]⟩, .slice none 0 0, .string ⟨#[]⟩] w1 fun e w' => e = .returned (.bool true) ∧ Below w1.heap.size w1 w' := fun w1 F hL => by
    have := cA w1 F [97] [99, 121, 100] hL (by decide); rw [wk_b] at this; exact this
  have cA3 : ∀ w1 F, LsAt w1 F (w.heap.size + 1) wkP → Calls Tryz.prog 22 #[.pointer (some ⟨w.heap.size + 1, 0, none⟩), .string ⟨#[]⟩, .bool true, .string ⟨#[98, 111, 98]⟩, .slice none 0 0, .string ⟨#[]⟩] w1 fun e w' => e = .returned (.bool true) ∧ Below w1.heap.size w1 w' := fun w1 F hL => by
    have := cA w1 F [] [98, 111, 98] hL (by decide); rw [wk_c] at this; exact this
  have cD : ∀ w1 F, LsAt w1 F (w.heap.size + 1) wkP → (∀ i, F i → w.heap.size ≤ i) → Below w.heap.size w w1 → Calls Tryz.prog 23 #[.pointer (some ⟨w.heap.size + 1, 0, none⟩), .string ⟨#[98]⟩] w1 fun e w' => e = .returned (.int .i64 7) ∧ Below w.heap.size w w' := fun w1 F hL hF hb => by
    have := drop_any [98] w1 F (w.heap.size + 1) wkP hL (by decide)
    rw [wk_d] at this
    exact this.mono (fun e w' hh => ⟨hh.1, hb.trans (hh.2.2.below hb.size hF)⟩)
  replace cS : Hid _ := cS
  replace cA1 : Hid _ := cA1
  replace cA2 : Hid _ := cA2
  replace cA3 : Hid _ := cA3
  replace cD : Hid _ := cD
  clear cA hT
  have tk1 : True := trivial
  have tk2 : True := trivial
  go_enter Tryz.func8, Tryz.ntmps8
  go_wp2_with (first
    | (go_at_call 6; refine cN.mono ?_; clear cN; rintro e w1 ⟨rfl, h1, hb1⟩; have H1 : Hid (LsAt w1 _ _ _ ∧ Below w.heap.size w w1) := ⟨h1, hb1⟩; have cS1 := cS.out w1 _ h1 hb1; clear h1 hb1 cS)
    | (go_at_call 18; refine cS1.mono ?_; clear cS1; rintro e w2 ⟨rfl, h2⟩; obtain ⟨F2, L2, k2, n2⟩ := h2.out; have H2 : Hid (LsAt w2 F2 (w.heap.size + 1) wkP ∧ (∀ i, F2 i → w.heap.size ≤ i) ∧ Below w.heap.size w w2) := (by
        have hz := H1.out.2.size
        have hb : Below w.heap.size w (w1.alloc (.cells #[.string ⟨#[100, 101, 110, 121, 32, 105, 110, 32, 106, 105, 100, 32, 66, 111, 98]⟩, .string ⟨#[97, 108, 108, 111, 119, 32, 105, 110, 32, 97, 108, 108]⟩] 9)) := H1.out.2.trans ((below1 w1 _).mono hz)
        exact ⟨L2, fun i hi => (n2 i hi).elim (fun z => z.elim (fun e => by omega) (fun e => by omega)) (fun z => by simp at z; omega), hb.trans (k2.below hb.size (fun i hi => hi.elim (fun e => by omega) (fun e => by omega)))⟩); have a1 := cA1.out w2 F2 L2; clear L2 k2 n2 h2 H1 cA1)
    | (go_at_call 22; clear tk1; refine a1.mono ?_; clear a1; rintro e w3 ⟨rfl, hb3⟩; have H3 : Hid (LsAt w3 F2 (w.heap.size + 1) wkP ∧ (∀ i, F2 i → w.heap.size ≤ i) ∧ Below w.heap.size w w3) := ⟨H2.out.1.below hb3, H2.out.2.1, H2.out.2.2.trans (hb3.mono H2.out.2.2.size)⟩; have a2 := cA2.out w3 F2 H3.out.1; clear hb3 H2 cA2)
    | (go_at_call 22; clear tk2; refine a2.mono ?_; clear a2; rintro e w4 ⟨rfl, hb4⟩; have H4 : Hid (LsAt w4 F2 (w.heap.size + 1) wkP ∧ (∀ i, F2 i → w.heap.size ≤ i) ∧ Below w.heap.size w w4) := ⟨H3.out.1.below hb4, H3.out.2.1, H3.out.2.2.trans (hb4.mono H3.out.2.2.size)⟩; have a3 := cA3.out w4 F2 H4.out.1; clear hb4 H3 cA3)
    | (go_at_call 22; refine a3.mono ?_; clear a3; rintro e w5 ⟨rfl, hb5⟩; have a4 := cD.out w5 F2 (H4.out.1.below hb5) H4.out.2.1 (H4.out.2.2.trans (hb5.mono H4.out.2.2.size)); clear hb5 H4 cD)
    | (go_at_call 23; refine a4.mono ?_; clear a4; rintro e w6 ⟨rfl, hb6⟩))
  go_ret
  exact ⟨rfl, hb6⟩
end Go.Proofs.YtiplalbicibahaaGreatDoor

/- privacy: a rule as text; Text. -/
set_option maxRecDepth 100000
namespace Go.Proofs.YtiplalbicibahaaGreatDoor
open Go.RowKit Go.Joins Go.Shelf

theorem ba_app (a b : By) : ba a ++ ba b = ba (a ++ b) := by
  apply ByteArray.ext
  simp [ba, ByteArray.data_append]
theorem exec_addB {o : Oper} {ρ : Operand → Value} {x y : Operand} {t u : TypeId} {a b : By} {w : World} (ho : o.op = .binOp .add t x y u) (hx : ρ x = .string (ba a)) (hy : ρ y = .string (ba b)) (hs : a.length + b.length ≤ 9223372036854775807) : (execOp ρ o).run Tryz.prog w = .ok (.value (.string (ba (a ++ b)))) w := by
  rw [← ba_app]
  have hs' : (ba a).size + (ba b).size ≤ 9223372036854775807 := by rw [ba_size, ba_size]; exact hs
  simp only [execOp, ho, hx, hy, Sem.run_bind, Sem.run_pure]
  go_simp
theorem wp_addB {ops : Array Oper} {rest : List Oper} {o : Oper} {a : Act} {w : World} {Q : Exit → Act → World → Prop} (hgd : o.guard = none) {x y : Operand} {t u : TypeId} (ho : o.op = .binOp .add t x y u) (l m : By) (hx : a.eval x = .string (ba l)) (hy : a.eval y = .string (ba m)) (hs : l.length + m.length ≤ 9223372036854775807)
    (hk : wpList Tryz.prog ops Q rest (a.put o.dst (.string (ba (l ++ m)))) w) : wpList Tryz.prog ops Q (o :: rest) a w := by
  refine wpList_plain hgd fun K' hK' => ?_
  unfold Oper.wp
  rw [exec_addB ho hx hy hs]
  exact hK' _ _ hk

def verdictT (r : Rul) : By := if r.al then wAllow else wDeny
def wayT (r : Rul) : By := if r.i && r.o then wBoth else if r.i then wIn else wOut
def headT (r : Rul) : By := verdictT r ++ [32] ++ wayT r ++ [32] ++ r.k
def writtenR (r : Rul) : By := if (r.k == wAll) = true then headT r else headT r ++ [32] ++ r.v
theorem verdictT_len (r : Rul) : (verdictT r).length ≤ 5 := by unfold verdictT; split <;> decide
theorem wayT_len (r : Rul) : (wayT r).length ≤ 4 := by unfold wayT; split; · decide
                                                       · split <;> decide
theorem headT_len (r : Rul) : (headT r).length ≤ 11 + r.k.length := by
  unfold headT
  have := verdictT_len r
  have := wayT_len r
  simp only [List.length_append, List.length_cons, List.length_nil]
  omega
theorem writtenR_len (r : Rul) : (writtenR r).length ≤ 12 + r.k.length + r.v.length := by
  unfold writtenR
  have := headT_len r
  split
  · omega
  · simp only [List.length_append, List.length_cons, List.length_nil]; omega

theorem verdictP_any (r : Rul) (w : World) : Calls Tryz.prog 65 #[rv r] w fun e w' => e = .returned (.string (ba (verdictT r))) ∧ Below w.heap.size w w' := by
  obtain ⟨al, i, o, k, v⟩ := r
  unfold verdictT rv rc
  dsimp only
  generalize ba k = K
  generalize ba v = V
  cases al
  all_goals
    go_enter Tryz.func65, Tryz.ntmps65
    go_wp2
    go_ret
    exact ⟨rfl, below1 _ _⟩
theorem wayP_any (r : Rul) (w : World) : Calls Tryz.prog 66 #[rv r] w fun e w' => e = .returned (.string (ba (wayT r))) ∧ Below w.heap.size w w' := by
  obtain ⟨al, i, o, k, v⟩ := r
  unfold wayT rv rc
  dsimp only
  generalize ba k = K
  generalize ba v = V
  cases i <;> cases o
  all_goals
    go_enter Tryz.func66, Tryz.ntmps66
    go_wp2
    go_ret
    exact ⟨rfl, below1 _ _⟩

set_option maxHeartbeats 1600000 in
theorem written_any (r : Rul) (w : World) (hz : r.k.length + r.v.length ≤ 281474976710000) : Calls Tryz.prog 52 #[rv r] w fun e w' => e = .returned (.string (ba (writtenR r))) ∧ Below w.heap.size w w' := by
  have e1 : ((ba r.k).toList == [97, 108, 108]) = (r.k == wAll) := ba_eq _ _
  have HL : Hid ((verdictT r).length ≤ 5 ∧ (wayT r).length ≤ 4 ∧ (headT r).length ≤ 11 + r.k.length ∧ r.k.length + r.v.length ≤ 281474976710000) := ⟨verdictT_len r, wayT_len r, headT_len r, hz⟩
  have cV := fun w => verdictP_any r w
  have cW := fun w => wayP_any r w
  have HR : Hid (RuAt (w.alloc (.cells (rc r) 72)).drew w.heap.size r ∧ Below w.heap.size w (w.alloc (.cells (rc r) 72)).drew) := ⟨push_at _ _ rfl, (below1 _ _).drew⟩
  clear hz
  obtain ⟨W, HW⟩ : ∃ W, Hid (writtenR r = W) := ⟨_, rfl⟩
  rw [HW.out]
  show Calls _ _ #[.agg (rc r)] _ _
  go_enter Tryz.func52, Tryz.ntmps52
  unfold rc
  unfold rc at HR
  go_upto_region 1 with fail
  obtain ⟨B, HB⟩ : ∃ B, Hid (w.heap.size = B) := ⟨_, rfl⟩
  refine wp_region_lx (fun w' => RuAt w' w.heap.size r) [] 11 (by kernel_rfl) (by kernel_rfl) ?_
  generalize World.drew _ = X at HR ⊢
  rw [HB.out] at HR ⊢
  have HS0 := HR.out.1
  refine lx_rd 0 (rv r) (by kernel_rfl) (fun _ _ d _ _ h => by cases d <;> exact h) (by kernel_rfl) HS0 rfl rfl rfl (fun w' hS => ?hA0) ?_
  case hA0 => exact exec_load_ru (.tmp 1) rfl B rfl r hS
  simp only [List.setIfInBounds_toArray, List.set_cons_zero, List.set_cons_succ]
  refine lx_rd 3 (rv r) (by kernel_rfl) (fun _ _ d _ _ h => by cases d <;> exact h) (by kernel_rfl) HS0 rfl rfl rfl (fun w' hS => ?hA3) ?_
  case hA3 => exact exec_load_ru (.tmp 1) rfl B rfl r hS
  simp only [List.setIfInBounds_toArray, List.set_cons_zero, List.set_cons_succ]
  refine lx_rd 7 (.pointer (some ⟨B, 3, none⟩)) (by kernel_rfl) (fun _ _ d _ _ h => by cases d <;> exact h) (by kernel_rfl) HS0 rfl rfl rfl (fun w' hS => ?hA7) ?_
  case hA7 => first | (go_simp; rfl) | go_simp
  simp only [List.setIfInBounds_toArray, List.set_cons_zero, List.set_cons_succ]
  refine lx_rd 8 (.string (ba r.k)) (by kernel_rfl) (fun _ _ d _ _ h => by cases d <;> exact h) (by kernel_rfl) HS0 rfl rfl rfl (fun w' hS => ?hA8) ?_
  case hA8 => have q0 := hS.c3; first | (go_simp; rfl) | go_simp
  simp only [List.setIfInBounds_toArray, List.set_cons_zero, List.set_cons_succ]
  refine lx_one 1 (by kernel_rfl) (stepT_call 65 ?ac rfl rfl rfl ?rc ?_)
  case rc => first | (go_simp; rfl) | go_simp
  refine (cV X).mono ?_
  rintro e X1 ⟨rfl, hb1⟩
  have HS1 : RuAt X1 B r := HS0.carry hb1
  refine ⟨_, rfl, fun _ => HS1, ?_⟩
  simp only [lxa, lxb, lxc]
  refine lx_rd 2 (.string (ba (verdictT r ++ [32]))) (by kernel_rfl) (fun _ _ d _ _ h => by cases d <;> exact h) (by kernel_rfl) HS1 rfl rfl rfl (fun w' hS => ?hB2) ?_
  case hB2 => exact exec_addB (a := verdictT r) (b := [32]) rfl rfl rfl (by have := HL.out; simp only [List.length_cons, List.length_nil]; omega)
  simp only [List.setIfInBounds_toArray, List.set_cons_zero, List.set_cons_succ]
  refine lx_one 4 (by kernel_rfl) (stepT_call 66 ?ad rfl rfl rfl ?rd ?_)
  case rd => first | (go_simp; rfl) | go_simp
  refine (cW X1).mono ?_
  rintro e X2 ⟨rfl, hb2⟩
  have HS2 : RuAt X2 B r := HS1.carry hb2
  refine ⟨_, rfl, fun _ => HS2, ?_⟩
  simp only [lxa, lxb, lxc]
  refine lx_rd 5 (.string (ba (verdictT r ++ [32] ++ wayT r))) (by kernel_rfl) (fun _ _ d _ _ h => by cases d <;> exact h) (by kernel_rfl) HS2 rfl rfl rfl (fun w' hS => ?hC5) ?_
  case hC5 => exact exec_addB (a := verdictT r ++ [32]) (b := wayT r) rfl rfl rfl (by have := HL.out; simp only [List.length_append, List.length_cons, List.length_nil]; omega)
  simp only [List.setIfInBounds_toArray, List.set_cons_zero, List.set_cons_succ]
  refine lx_rd 6 (.string (ba (verdictT r ++ [32] ++ wayT r ++ [32]))) (by kernel_rfl) (fun _ _ d _ _ h => by cases d <;> exact h) (by kernel_rfl) HS2 rfl rfl rfl (fun w' hS => ?hC6) ?_
  case hC6 => exact exec_addB (a := verdictT r ++ [32] ++ wayT r) (b := [32]) rfl rfl rfl (by have := HL.out; simp only [List.length_append, List.length_cons, List.length_nil]; omega)
  simp only [List.setIfInBounds_toArray, List.set_cons_zero, List.set_cons_succ]
  refine lx_rd 9 (.string (ba (headT r))) (by kernel_rfl) (fun _ _ d _ _ h => by cases d <;> exact h) (by kernel_rfl) HS2 rfl rfl rfl (fun w' hS => ?hC9) ?_
  case hC9 => exact exec_addB (a := verdictT r ++ [32] ++ wayT r ++ [32]) (b := r.k) rfl rfl rfl (by have := HL.out; simp only [List.length_append, List.length_cons, List.length_nil]; omega)
  simp only [List.setIfInBounds_toArray, List.set_cons_zero, List.set_cons_succ]
  refine lx_rd 10 (.string (ba (headT r))) (by kernel_rfl) (fun _ _ d _ _ h => by cases d <;> exact h) (by kernel_rfl) HS2 rfl rfl rfl (fun w' hS => ?hC10) ?_
  case hC10 => first | (go_simp; rfl) | go_simp
  simp only [List.setIfInBounds_toArray, List.set_cons_zero, List.set_cons_succ]
  refine lx_nil (by kernel_rfl) ?_
  have HB2 : Hid (Below B w X2) := by
    have h1 := HR.out.2
    have h2 := h1.size
    have h3 := hb1.size
    have h4 := HB.out
    exact (h1.trans (hb1.mono (by omega))).trans (hb2.mono (by omega))
  have u3 := HS2.c3
  have u4 := HS2.c4
  clear HS0 HS1 HS2 hb1 hb2 HR cV cW
  have HW2 := HW.out
  unfold writtenR at HW2
  generalize (r.k == wAll) = b at e1 HW2
  cases b with
  | true =>
    rw [if_pos rfl] at HW2
    replace HW2 : Hid _ := HW2
    go_wp2
    go_ret
    exact ⟨by rw [← HW2.out]; rfl, by rw [HB.out]; exact HB2.out⟩
  | false =>
    rw [if_neg (by decide)] at HW2
    replace HW2 : Hid _ := HW2
    go_wp2_with (first
      | (refine wp_addB rfl rfl (headT r) [32] rfl rfl (by have := HL.out; simp only [List.length_cons, List.length_nil]; omega) ?_)
      | (refine wp_addB rfl rfl (headT r ++ [32]) r.v rfl rfl (by have := HL.out; simp only [List.length_append, List.length_cons, List.length_nil]; omega) ?_))
    go_ret
    exact ⟨by rw [← HW2.out, show headT r ++ [32] ++ r.v = headT r ++ 32 :: r.v from by simp]; rfl, by rw [HB.out]; exact HB2.out⟩

/-! ### Text -/
def eqRul (a b : Rul) : Bool := a.al == b.al && (a.i == b.i && (a.o == b.o && (a.k == b.k && a.v == b.v)))
theorem eqRul_true {a b : Rul} (h : eqRul a b = true) : a = b := by
  obtain ⟨a1, a2, a3, a4, a5⟩ := a
  obtain ⟨b1, b2, b3, b4, b5⟩ := b
  unfold eqRul at h
  simp only [Bool.and_eq_true, beq_iff_eq] at h
  obtain ⟨rfl, rfl, rfl, rfl, rfl⟩ := h
  rfl
theorem eqRul_self (a : Rul) : eqRul a a = true := by unfold eqRul; simp
theorem fieldsRule : (Tryz.prog.fieldsOf 72).toList.map (fun f => (f.name == "_", f.type, f.offset)) = [(false, 4, 0), (false, 4, 1), (false, 4, 2), (false, 9, 3), (false, 9, 4)] := by kernel_rfl
theorem run_neq_rule (w : World) (a b : Rul) : (binOp .neq 72 (rv a) (rv b)).run Tryz.prog w = .ok (.bool (!(eqRul a b))) w := by
  obtain ⟨fs, hfs⟩ : ∃ fs, (Tryz.prog.fieldsOf 72).toList = fs := ⟨_, rfl⟩
  have hF := fieldsRule
  rw [hfs] at hF
  have ek : ((ba a.k).toList == (ba b.k).toList) = (a.k == b.k) := by rw [ba_eq, Lib.toList_data, ba_list]
  have ev : ((ba a.v).toList == (ba b.v).toList) = (a.v == b.v) := by rw [ba_eq, Lib.toList_data, ba_list]
  unfold rv rc eqRul
  rw [run_neq_struct, run_equalIn_agg w 9999 72 _ _ (by kernel_rfl) (by kernel_rfl), hfs]
  rcases fs with _ | ⟨f0, _ | ⟨f1, _ | ⟨f2, _ | ⟨f3, _ | ⟨f4, _ | ⟨f5, fs⟩⟩⟩⟩⟩⟩ <;> simp only [List.map_nil, List.map_cons, List.cons.injEq, reduceCtorEq, and_false, and_true, Prod.mk.injEq, List.nil_eq] at hF
  obtain ⟨⟨n0, t0, o0⟩, ⟨n1, t1, o1⟩, ⟨n2, t2, o2⟩, ⟨n3, t3, o3⟩, n4, t4, o4⟩ := hF
  have n0' : f0.name ≠ "_" := by intro e; rw [e] at n0; exact absurd n0 (by decide)
  have n1' : f1.name ≠ "_" := by intro e; rw [e] at n1; exact absurd n1 (by decide)
  have n2' : f2.name ≠ "_" := by intro e; rw [e] at n2; exact absurd n2 (by decide)
  have n3' : f3.name ≠ "_" := by intro e; rw [e] at n3; exact absurd n3 (by decide)
  have n4' : f4.name ≠ "_" := by intro e; rw [e] at n4; exact absurd n4 (by decide)
  have pB : ∀ (xs : Array Value) (i : Nat) (v : Bool), xs[i]? = some (.bool v) → (part 4 xs i).run Tryz.prog w = .ok (.bool v) w := by
    intro xs i v hx; simp [part, isAgg, run_underlying Tryz.underlying4, hx]
  have pS : ∀ (xs : Array Value) (i : Nat) (v : ByteArray), xs[i]? = some (.string v) → (part 9 xs i).run Tryz.prog w = .ok (.string v) w := by
    intro xs i v hx; simp [part, isAgg, run_underlying Tryz.underlying9, hx]
  have eB : ∀ (x y : Bool), (Op.equalIn (9998 + 1) 4 (.bool x) (.bool y)).run Tryz.prog w = .ok (x == y) w := fun x y => run_equalIn_bool w 9998 4 x y Tryz.underlying4
  have eS : ∀ (x y : ByteArray), (Op.equalIn (9998 + 1) 9 (.string x) (.string y)).run Tryz.prog w = .ok (x.toList == y.toList) w := fun x y => run_equalIn_string w 9998 9 x y Tryz.underlying9
  have hrun : (Op.eqFields 9999 #[.bool a.al, .bool a.i, .bool a.o, .string (ba a.k), .string (ba a.v)] #[.bool b.al, .bool b.i, .bool b.o, .string (ba b.k), .string (ba b.v)] [f0, f1, f2, f3, f4]).run Tryz.prog w = .ok (a.al == b.al && (a.i == b.i && (a.o == b.o && (a.k == b.k && a.v == b.v)))) w := by
    simp only [Op.eqFields, n0', n1', n2', n3', n4', ne_eq, not_false_eq_true, if_true, o0, o1, o2, o3, o4, t0, t1, t2, t3, t4, Sem.run_bind]
    rw [pB _ 0 a.al rfl]; simp only [Result.andThen_ok]
    rw [pB _ 0 b.al rfl]; simp only [Result.andThen_ok]
    rw [show (9999 : Nat) = 9998 + 1 from rfl, eB]; simp only [Result.andThen_ok, Sem.run_ite]
    cases a.al == b.al
    · rfl
    simp only [Bool.not_true, Bool.false_eq_true, if_false, Sem.run_bind, Bool.true_and]
    rw [pB _ 1 a.i rfl]; simp only [Result.andThen_ok]
    rw [pB _ 1 b.i rfl]; simp only [Result.andThen_ok]
    rw [eB]; simp only [Result.andThen_ok, Sem.run_ite]
    cases a.i == b.i
    · rfl
    simp only [Bool.not_true, Bool.false_eq_true, if_false, Sem.run_bind, Bool.true_and]
    rw [pB _ 2 a.o rfl]; simp only [Result.andThen_ok]
    rw [pB _ 2 b.o rfl]; simp only [Result.andThen_ok]
    rw [eB]; simp only [Result.andThen_ok, Sem.run_ite]
    cases a.o == b.o
    · rfl
    simp only [Bool.not_true, Bool.false_eq_true, if_false, Sem.run_bind, Bool.true_and]
    rw [pS _ 3 (ba a.k) rfl]; simp only [Result.andThen_ok]
    rw [pS _ 3 (ba b.k) rfl]; simp only [Result.andThen_ok]
    rw [eS, ek]; simp only [Result.andThen_ok, Sem.run_ite]
    cases a.k == b.k
    · rfl
    simp only [Bool.not_true, Bool.false_eq_true, if_false, Sem.run_bind, Bool.true_and]
    rw [pS _ 4 (ba a.v) rfl]; simp only [Result.andThen_ok]
    rw [pS _ 4 (ba b.v) rfl]; simp only [Result.andThen_ok]
    rw [eS, ev]; simp only [Result.andThen_ok, Sem.run_ite]
    cases a.v == b.v <;> rfl
  rw [hrun]
  rfl
theorem exec_neq_rule {w : World} {o : Oper} {ρ : Operand → Value} (x y : Operand) (ho : o.op = .binOp .neq 72 x y 72) (a b : Rul) (hx : ρ x = rv a) (hy : ρ y = rv b) : (execOp ρ o).run Tryz.prog w = .ok (.value (.bool (!(eqRul a b)))) w := by
  have hg : (eqGuard .neq 72 x y (rv a) (rv b)).run Tryz.prog w = .ok () w := run_eqGuard_agg w .neq 72 x y _ _ (by kernel_rfl)
  have hr := run_neq_rule w a b
  unfold execOp
  simp only [ho, hx, hy, Sem.run_bind, hg, hr, Result.andThen_ok, Sem.run_pure]
theorem wp_neq_ruleW {ops : Array Oper} {rest : List Oper} {o : Oper} {a : Act} {w : World} {Q : Exit → Act → World → Prop} (hw : Region.wanted o (yielded ops a.tmps) = true) (x y : Operand) (ho : o.op = .binOp .neq 72 x y 72) (h k : Rul) (hx : a.eval x = rv h) (hy : a.eval y = rv k)
    (hK : wpList Tryz.prog ops Q rest (a.put o.dst (.bool (!(eqRul h k)))) w) : wpList Tryz.prog ops Q (o :: rest) a w := by
  refine Go.BigFrame.wpList_want hw fun _ hK' => ?_
  unfold Oper.wp
  rw [exec_neq_rule x y ho h k hx hy]
  exact hK' _ _ hK
theorem wp_load_ruW {ops : Array Oper} {rest : List Oper} {o : Oper} {a : Act} {w : World} {Q : Exit → Act → World → Prop} (hw : Region.wanted o (yielded ops a.tmps) = true) (x : Operand) (ho : o.op = .load 72 x) (g : Nat) (hx : a.eval x = .pointer (some ⟨g, 0, none⟩)) (r : Rul) (hg : RuAt w g r)
    (hk : wpList Tryz.prog ops Q rest (a.put o.dst (rv r)) w) : wpList Tryz.prog ops Q (o :: rest) a w := by
  refine Go.BigFrame.wpList_want hw fun _ hK' => ?_
  unfold Oper.wp
  rw [exec_load_ru x ho g hx r hg]
  exact hK' _ _ hk

def okT (r : Rul) : Bool := (parseR (writtenR r)).2 == 0 && eqRul (parseR (writtenR r)).1 r
def textV (r : Rul) : Value := .tuple #[.string (ba (if okT r = true then writtenR r else [])), .int .i64 (if okT r = true then 0 else 1)]
end Go.Proofs.YtiplalbicibahaaGreatDoor

/- roostkeep.Text, Texts; arguments. -/
set_option maxRecDepth 100000
namespace Go.Proofs.YtiplalbicibahaaGreatDoor
open Go.RowKit Go.Joins Go.Shelf

theorem text_any (l : By) (most : Nat) (w : World) (hm : most ≤ 100000) :
    Calls Tryz.prog 24 #[.string (ba l), .int .i64 most] w fun e w' => e = .returned (.string (ba (l.take most))) ∧ w' = w := by
  have hl := ba_size l
  by_cases hn : (most : Int) < ((ba l).size : Int)
  · have e1 : ba (l.take most) = (ba l).extract 0 most := by
      rw [Lib.extract_eq, ba_list]; rfl
    rw [e1]
    clear e1 hl
    generalize ba l = S at *
    go_enter Tryz.func24, Tryz.ntmps24
    go_wp2
    go_ret
    exact ⟨rfl, rfl⟩
  · have e1 : ba (l.take most) = ba l := by rw [List.take_of_length_le (by omega)]
    rw [e1]
    clear e1 hl
    generalize ba l = S at *
    go_enter Tryz.func24, Tryz.ntmps24
    go_wp2
    go_ret
    exact ⟨rfl, rfl⟩

/-- Texts of a list, cut. -/
def cutT (ts : List By) (most long : Nat) : List By := (ts.take most).map fun t => t.take long
theorem cutT_len (ts : List By) (most long : Nat) : (cutT ts most long).length ≤ most := by unfold cutT; rw [List.length_map, List.length_take]; omega
theorem cutT_size (ts : List By) (most long : Nat) : ∀ t ∈ cutT ts most long, t.length ≤ long := by
  intro t ht
  unfold cutT at ht
  obtain ⟨u, _, rfl⟩ := List.mem_map.1 ht
  rw [List.length_take]; omega
theorem cutT_cut (ts : List By) (most long : Nat) : cutT (cutT ts most long) most long = cutT ts most long := by
  unfold cutT
  rw [List.take_of_length_le (by rw [List.length_map, List.length_take]; omega), List.map_map]
  refine List.map_congr_left (fun t _ => ?_)
  show List.take long (List.take long t) = List.take long t
  rw [List.take_take, Nat.min_self]
set_option maxHeartbeats 1600000 in
theorem texts_any (a : Option Addr) (n c : Nat) (ts : List By) (most long : Nat) (w : World) (h : TRd w a n c ts) (hm : most ≤ 1000) (hl : long ≤ 100000) :
    Calls Tryz.prog 17 #[.slice a n c, .int .i64 most, .int .i64 long] w fun e w' => ∃ v, e = .returned v ∧ w'.ownsRow w.heap.size 9 1 v (cutT ts most long).length (tc (cutT ts most long)) ∧ Below w.heap.size w w' := by
  have hcap := h.cap
  have hmost := h.most
  have HL : Hid (ts.length = n) := h.len
  unfold maxLen at hmost
  obtain ⟨M, HM⟩ : ∃ M, Hid (most = M) := ⟨_, rfl⟩
  go_enter Tryz.func17, Tryz.ntmps17
  go_wp2
  go_loopw [7, 8] (fun v i wr => ∃ k : Nat, k ≤ n ∧ k ≤ most ∧ i = .int .i64 k ∧ Hid (wr.ownsRow w.heap.size 9 1 v k (tc ((ts.take k).map fun t => t.take long))) ∧ Hid (Below w.heap.size w wr)) (fun _ i _ => n - (intOf i).toNat)
  case atStart => exact ⟨0, by omega, by omega, rfl, World.ownsRow_nil .., Below.refl _ _⟩
  case round =>
    rename_i v _ _
    obtain ⟨k, hk, hkm, rfl, HO, HB⟩ := hrel
    have hsz := HB.out.size
    by_cases hkn : (k : Int) < (n : Int)
    · by_cases hkq : (k : Int) < (most : Int)
      · obtain ⟨b, off, rfl, hcell⟩ := (h.below HB.out).flat (by omega)
        have hc := hcell k (by omega)
        obtain ⟨y, hy⟩ : ∃ y, ts[k]? = some y := ⟨_, List.getElem?_eq_getElem (by rw [HL.out]; omega)⟩
        rw [show ts.getD k [] = y by rw [List.getD_eq_getElem?_getD, hy]; rfl] at hc
        have HX : Hid (tc ((ts.take (k + 1)).map fun t => t.take long) = tc ((ts.take k).map fun t => t.take long) ++ [.string (ba (y.take long))]) := by
          show _ = _
          rw [List.take_add_one, hy, List.map_append, tc_app]; rfl
        have ov := HO.out
        obtain ⟨av, cv, hv⟩ := ownR_sl ov
        subst hv
        have hTx := fun w => text_any y long w hl
        clear hcell hy h HO
        go_wp2_with (first
          | (go_at_call 24; refine (hTx _).mono ?_; clear hTx; rintro e w2 ⟨rfl, hw2⟩; replace hw2 := hw2.symm; subst hw2)
          | (at_builtin; refine wp_app1 32 9 _ 1 16 Tryz.underlying32 infoStr1 rfl (by decide) (by decide) rfl (.tmp 20) (.tmp 27) rfl w.heap.size (.slice av k cv) k _ rfl ov #[.string (ba (y.take long))] rfl (by simp [Value.oneCell']) rfl (by omega) hsz ?_; intro v7 w7 o7 k7 n7))
        have HB7 : Hid (Below w.heap.size w w7) := HB.out.trans (k7.below hsz (fun g' hg => (ov.lt g' hg).1))
        have HO7 : Hid (w7.ownsRow w.heap.size 9 1 v7 (k + 1) (tc ((ts.take (k + 1)).map fun t => t.take long))) := by
          show World.ownsRow _ _ _ _ _ _ _
          rw [HX.out]; exact o7
        clear ov o7 k7 n7 HB HX
        go_wp2
        go_roundw
        case rel => exact ⟨k + 1, by omega, by omega, by go_num, HO7, HB7⟩
        case measure => simp [intOf]; omega
      · have HX : Hid (cutT ts most long = (ts.take k).map (fun t => t.take long)) := by
          unfold cutT; rw [show k = most by omega]; rfl
        clear h
        go_wp2
        go_ret
        rw [HX.out]
        refine ⟨_, rfl, ?_, HB.out⟩
        rw [List.length_map, List.length_take, HL.out, Nat.min_eq_left hk]
        exact HO.out
    · have HX : Hid (cutT ts most long = (ts.take k).map (fun t => t.take long)) := by
        show _ = _
        unfold cutT; rw [List.take_of_length_le (by rw [HL.out]; omega), List.take_of_length_le (by rw [HL.out]; omega)]
      clear h
      go_wp2
      go_ret
      rw [HX.out]
      refine ⟨_, rfl, ?_, HB.out⟩
      rw [List.length_map, List.length_take, HL.out, Nat.min_eq_left hk]
      exact HO.out

/-! ### arguments -/
open Go.ChangeShapes Go.WideShapes Go.ChangeAt
theorem cellsInt : Tryz.prog.cellsOf 3 = 1 := by kernel_rfl
theorem cellsBool : Tryz.prog.cellsOf 4 = 1 := by kernel_rfl
theorem cellsStr : Tryz.prog.cellsOf 9 = 1 := by kernel_rfl
theorem cellsStrs : Tryz.prog.cellsOf 32 = 1 := by kernel_rfl
theorem cellsOp : Tryz.prog.cellsOf 34 = 7 := by kernel_rfl
theorem array7 {α : Type} {cs : Array α} (h : cs.size = 7) : ∃ c0 c1 c2 c3 c4 c5 c6, cs = #[c0, c1, c2, c3, c4, c5, c6] := by
  obtain ⟨l⟩ := cs
  match l, h with
  | [c0, c1, c2, c3, c4, c5, c6], _ => exact ⟨c0, c1, c2, c3, c4, c5, c6, rfl⟩
theorem strs_cell {H : Type} {enc : TypeId × Value → H} {W : World} {fuel : Nat} {c0 : Value} {x : DataW H × List MemPlace} (f : DataW.trod enc Tryz.prog W 0 (fun _ => true) true fuel 32 [c0] = some x) :
    ∃ (a : Option Addr) (n c : Nat) (ts : List By), c0 = .slice a n c ∧ TRd W a n c ts := by
  rcases open_strings Tryz.underlying32 Tryz.underlying9 cellsStr f with ⟨hcs, _⟩ | ⟨x, l, cc, ss, hcs, _, hl, hm, hz, _, hcell, hws⟩
  · simp only [List.cons.injEq, and_true] at hcs
    exact ⟨none, 0, 0, [], hcs, TRd.nil W⟩
  · simp only [List.cons.injEq, and_true] at hcs
    have hz' : ss.length = cc := by simpa using hz
    refine ⟨some x, l, cc, (ss.take l).map (fun s => s.data.toList), hcs, by rw [List.length_map, List.length_take]; omega, hl, hm, fun h0 => ?_, fun e => by cases e⟩
    have hc : ∀ j, j < l → W.cell? (x.add j) = some (.string (ba (((ss.take l).map (fun s => s.data.toList)).getD j []))) := fun j hj => by
      have hjl : j < ss.length := by omega
      rw [hcell j (by omega)]
      simp [List.getD, hj, List.getElem?_eq_getElem hjl, ba_back]
    obtain ⟨b, off, spot⟩ := x
    have hspot : spot = none := by simpa [Addr.add] using World.cell?_spot (hc 0 h0)
    subst hspot
    refine ⟨b, off, rfl, fun j hj => ?_⟩
    have := hc j hj
    rw [add_flat] at this
    exact this
theorem open_texts {H : Type} {enc : TypeId × Value → H} {W : World} {b0 : Nat} {v : Value} {d : DataW H} {p : List MemPlace}
    (hv : Value.okWide Tryz.prog W .any b0 32 v) (h : DataW.Trod enc Tryz.prog W 0 (fun _ => true) true 32 v d p) : ∃ a n c ts, v = .slice a n c ∧ TRd W a n c ts := by
  obtain ⟨a, n, c, rfl⟩ := okWide_slice Tryz.underlying32 hv
  obtain ⟨fuel, hf⟩ := h
  exact strs_cell (by simpa [Value.cells] using hf)

/-- A call as an argument. -/
structure Op7 where
  d : Int
  nm : By
  ta : Option Addr
  tn : Nat
  tc : Nat
  i : Bool
  c : By
  ga : Option Addr
  gn : Nat
  gc : Nat
  s : By
def oc (o : Op7) : Array Value := #[.int .i64 o.d, .string (ba o.nm), .slice o.ta o.tn o.tc, .bool o.i, .string (ba o.c), .slice o.ga o.gn o.gc, .string (ba o.s)]
structure OpR (W : World) (o : Op7) (ts gs : List By) : Prop where
  t : TRd W o.ta o.tn o.tc ts
  g : TRd W o.ga o.gn o.gc gs
  s : o.s.length ≤ 9223372036854775807
theorem op_cells {H : Type} {enc : TypeId × Value → H} {W : World} {fuel : Nat} {c0 c1 c2 c3 c4 c5 c6 : Value} {x : DataW H × List MemPlace} (f : DataW.trod enc Tryz.prog W 0 (fun _ => true) true fuel 34 [c0, c1, c2, c3, c4, c5, c6] = some x) :
    ∃ (o : Op7) (ts gs : List By), #[c0, c1, c2, c3, c4, c5, c6] = oc o ∧ OpR W o ts gs := by
  obtain ⟨ys, n, _, hx, hl, hlen, hfs⟩ := DataW.trod_struct Tryz.underlying34 f
  match ys, hlen with
  | [y0, y1, y2, y3, y4, y5, y6], _ =>
    have f0 : DataW.trod enc Tryz.prog W 0 (fun _ => true) true n 3 [c0] = some y0 := by simpa [Value.cells, cellsInt] using hfs 0 _ rfl
    have f1 : DataW.trod enc Tryz.prog W 0 (fun _ => true) true n 9 [c1] = some y1 := by simpa [Value.cells, cellsStr] using hfs 1 _ rfl
    have f2 : DataW.trod enc Tryz.prog W 0 (fun _ => true) true n 32 [c2] = some y2 := by simpa [Value.cells, cellsStrs] using hfs 2 _ rfl
    have f3 : DataW.trod enc Tryz.prog W 0 (fun _ => true) true n 4 [c3] = some y3 := by simpa [Value.cells, cellsBool] using hfs 3 _ rfl
    have f4 : DataW.trod enc Tryz.prog W 0 (fun _ => true) true n 9 [c4] = some y4 := by simpa [Value.cells, cellsStr] using hfs 4 _ rfl
    have f5 : DataW.trod enc Tryz.prog W 0 (fun _ => true) true n 32 [c5] = some y5 := by simpa [Value.cells, cellsStrs] using hfs 5 _ rfl
    have f6 : DataW.trod enc Tryz.prog W 0 (fun _ => true) true n 9 [c6] = some y6 := by simpa [Value.cells, cellsStr] using hfs 6 _ rfl
    obtain ⟨D, e0, _, w0⟩ := DataW.trod_int Tryz.underlying3 f0
    obtain ⟨N, e1, _, w1⟩ := DataW.trod_string Tryz.underlying9 f1
    obtain ⟨I, e3, _⟩ := DataW.trod_bool Tryz.underlying4 f3
    obtain ⟨C, e4, _, w4⟩ := DataW.trod_string Tryz.underlying9 f4
    obtain ⟨S, e6, _, w6⟩ := DataW.trod_string Tryz.underlying9 f6
    simp only [List.cons.injEq, and_true] at e0 e1 e3 e4 e6
    subst e0 e1 e3 e4 e6
    obtain ⟨ta, tn, tc, ts, rfl, hT⟩ := strs_cell f2
    obtain ⟨ga, gn, gc, gs, rfl, hG⟩ := strs_cell f5
    refine ⟨⟨D, N.data.toList, ta, tn, tc, I, C.data.toList, ga, gn, gc, S.data.toList⟩, ts, gs, ?_, hT, hG, ?_⟩
    · unfold oc; simp only [ba_back]
    · show S.data.toList.length ≤ _
      have : S.data.toList.length = S.size := by simp
      rw [this]; exact w6
theorem open_op {H : Type} {enc : TypeId × Value → H} {W : World} {b0 : Nat} {v : Value} {d : DataW H} {p : List MemPlace}
    (hv : Value.okWide Tryz.prog W .any b0 34 v) (h : DataW.Trod enc Tryz.prog W 0 (fun _ => true) true 34 v d p) : ∃ o ts gs, v = .agg (oc o) ∧ OpR W o ts gs := by
  obtain ⟨cs, rfl, hsz⟩ := okWide_struct Tryz.underlying34 hv
  obtain ⟨c0, c1, c2, c3, c4, c5, c6, rfl⟩ := array7 (hsz.trans cellsOp)
  obtain ⟨fuel, hf⟩ := h
  obtain ⟨o, ts, gs, e, hR⟩ := op_cells (by simpa [Value.cells] using hf)
  exact ⟨o, ts, gs, by rw [e], hR⟩
end Go.Proofs.YtiplalbicibahaaGreatDoor

/- privacy: Lists beside a law's own things. -/
set_option maxRecDepth 100000
namespace Go.Proofs.YtiplalbicibahaaGreatDoor
open Go.RowKit Go.Joins Go.Shelf

/-- Lists at q, all in blocks from B on that are none of Z's. -/
structure St (B : Nat) (w0 w : World) (q : Nat) (P : Pl) (Z : Nat → Prop) : Prop where
  ex : ∃ F, LsAt w F q P ∧ ∀ i, F i → B ≤ i ∧ ¬ Z i
  bl : Below B w0 w
  sz : B ≤ w.heap.size
  zl : ∀ i, Z i → i < w.heap.size
/-- What a call may turn. -/
def Oth (B : Nat) (Z : Nat → Prop) : Nat → Prop := fun i => B ≤ i ∧ ¬ Z i
section
variable {B : Nat} {w0 w w' : World} {q : Nat} {P P' : Pl} {Z : Nat → Prop}
theorem St.new (hb : Below B w0 w) (hB : B ≤ w.heap.size) (hz : ∀ i, Z i → i < w.heap.size) {F : Nat → Prop} (hL : LsAt w' F q P) (hF : ∀ i, F i → w.heap.size ≤ i) (hb' : Below w.heap.size w w') : St B w0 w' q P Z :=
  ⟨⟨F, hL, fun i hi => ⟨Nat.le_trans hB (hF i hi), fun z => by have := hz i z; have := hF i hi; omega⟩⟩, hb.trans (hb'.mono hB), Nat.le_trans hB hb'.size, fun i hi => Nat.lt_of_lt_of_le (hz i hi) hb'.size⟩
theorem St.below (h : St B w0 w q P Z) (hb : Below w.heap.size w w') : St B w0 w' q P Z := by
  obtain ⟨F, hL, hF⟩ := h.ex
  exact ⟨⟨F, hL.below hb, hF⟩, h.bl.trans (hb.mono h.sz), Nat.le_trans h.sz hb.size, fun i hi => Nat.lt_of_lt_of_le (h.zl i hi) hb.size⟩
/-- What was made since is the law's own. -/
theorem St.grow (h : St B w0 w q P Z) (hb : Below w.heap.size w w') : St B w0 w' q P (fun i => Z i ∨ (w.heap.size ≤ i ∧ i < w'.heap.size)) := by
  obtain ⟨F, hL, hF⟩ := h.ex
  exact ⟨⟨F, hL.below hb, fun i hi => ⟨(hF i hi).1, fun z => z.elim (hF i hi).2 (fun z => by have := hL.lt i hi; omega)⟩⟩, h.bl.trans (hb.mono h.sz), Nat.le_trans h.sz hb.size, fun i hi => hi.elim (fun z => Nat.lt_of_lt_of_le (h.zl i z) hb.size) (fun z => z.2)⟩
/-- The law writes to what is its own. -/
theorem St.own {S : Nat → Prop} (h : St B w0 w q P Z) (hk : Keep S w w') (hS : ∀ i, S i → Z i ∧ B ≤ i) : St B w0 w' q P Z := by
  obtain ⟨F, hL, hF⟩ := h.ex
  exact ⟨⟨F, hL.keep hk (fun i hi hs => (hF i hi).2 (hS i hs).1), hF⟩, h.bl.trans (hk.below h.sz (fun i hi => (hS i hi).2)), Nat.le_trans h.sz hk.size, fun i hi => Nat.lt_of_lt_of_le (h.zl i hi) hk.size⟩
theorem St.lq (h : St B w0 w q P Z) {F : Nat → Prop} (hF : ∀ i, F i → B ≤ i ∧ ¬ Z i) (hq : Lq w F q P' w') : St B w0 w' q P' Z ∧ Keep (Oth B Z) w w' := by
  obtain ⟨F', hL', hk, hn⟩ := hq
  have hk' : Keep (Oth B Z) w w' := hk.mono hF
  refine ⟨⟨⟨F', hL', fun i hi => ?_⟩, h.bl.trans (hk'.below h.sz (fun i hi => hi.1)), Nat.le_trans h.sz hk.size, fun i hi => Nat.lt_of_lt_of_le (h.zl i hi) hk.size⟩, hk'⟩
  rcases hn i hi with z | z
  · exact hF i z
  · exact ⟨Nat.le_trans h.sz z, fun y => by have := h.zl i y; omega⟩
end
theorem TRd.keep {S : Nat → Prop} {w w' : World} {a : Option Addr} {n c : Nat} {ts : List By} (h : TRd w a n c ts) (hk : Keep S w w') (hs : ∀ ad, a = some ad → ¬ S ad.block) : TRd w' a n c ts := by
  refine ⟨h.len, h.cap, h.most, fun h0 => ?_, h.nil0⟩
  obtain ⟨b, off, e, hc⟩ := h.flat h0
  exact ⟨b, off, e, fun j hj => hk.cell (p := ⟨b, off + j, none⟩) (hc j hj) (hs ⟨b, off, none⟩ e)⟩
theorem st_set {B : Nat} {w0 w : World} {q : Nat} {P : Pl} {Z : Nat → Prop} (h : St B w0 w q P Z) (s : By) (a : Option Addr) (n c : Nat) (ts : List By) (hs : s.length ≤ 1000000) (hR : TRd w a n c ts) (hn : n ≤ 100000) (hts : ∀ t ∈ ts, t.length ≤ 2000000) (hk : P.ks.length < 900000) (hT : Lib.Utf8Tabs 0 1 w) :
    Calls Tryz.prog 18 #[.pointer (some ⟨q, 0, none⟩), .string (ba s), .slice a n c] w fun e w' => e = .returned (.int .i64 ((setR P s ts).1 : Nat)) ∧ Hid (St B w0 w' q (setR P s ts).2 Z ∧ Keep (Oth B Z) w w') := by
  obtain ⟨F, hL, hF⟩ := h.ex
  exact (set_any s a n c ts w F q P hL hs hR hn hts hk hT).mono (fun e w' hh => ⟨hh.1, h.lq hF hh.2⟩)
theorem st_allows {B : Nat} {w0 w : World} {q : Nat} {P : Pl} {Z : Nat → Prop} (h : St B w0 w q P Z) (s : By) (y : Qy) (a : Option Addr) (n c : Nat) (hs : s.length ≤ 1000000) (hu : P.us.length ≤ 1000000) (hR : TRd w a n c y.gs) (hsb : y.s.length ≤ 9223372036854775807) (hl : (heldR P s).length ≤ 100000) :
    Calls Tryz.prog 22 #[.pointer (some ⟨q, 0, none⟩), .string (ba s), .bool y.i, .string (ba y.c), .slice a n c, .string (ba y.s)] w fun e w' => e = .returned (.bool (allowsR y (heldR P s))) ∧ Hid (St B w0 w' q P Z ∧ Below w.heap.size w w') := by
  obtain ⟨F, hL, hF⟩ := h.ex
  exact (allows_any s y a n c w F q P hL hs hu hR hsb hl).mono (fun e w' hh => ⟨hh.1, h.below hh.2, hh.2⟩)

/-! ### rows of the law's own -/
theorem own_built (w : World) (vs : Array Value) (e : TypeId) (hv : vs.size ≤ 1000000) : (w.alloc (.cells vs e)).ownsRow w.heap.size e 1 (.slice (some ⟨w.heap.size, 0, none⟩) vs.size vs.size) vs.size vs.toList := by
  refine ⟨by simp, Or.inr ⟨w.heap.size, vs.size, vs, rfl, Nat.le_refl _, alloc_at w _, Nat.le_refl _, by unfold maxLen; omega, by omega, ?_⟩⟩
  rw [List.take_of_length_le (by simp)]
/-- 'append(s, x...)' of texts, s the call's own, x whatever slice of texts. -/
theorem wp_appS {w : World} {ops : Array Oper} {rest : List Oper} {o : Oper} {a : Act} {Q : Exit → Act → World → Prop} (hgd : o.guard = none) (s x : Operand)
    (ho : o.op = .call { callee := .builtin .append, args := #[s, x], argTypes := #[32, 32] })
    (base : Nat) (v : Value) (n : Nat) (xs : List By) (hs : a.eval s = v) (hown : w.ownsRow base 9 1 v n (tc xs))
    (ao : Option Addr) (m c : Nat) (ys : List By) (hx : a.eval x = .slice ao m c) (hr : TRd w ao m c ys) (hb : n + m ≤ 1000000) (hbase : base ≤ w.heap.size)
    (h : ∀ v' w', w'.ownsRow base 9 1 v' (n + m) (tc (xs ++ ys)) → Keep (fun k => v.ownBlock = some k) w w' → wpList Tryz.prog ops Q rest (a.put o.dst v') w') : wpList Tryz.prog ops Q (o :: rest) a w := by
  obtain ⟨i0, hi, hz0, hz1, hz2⟩ := info_parts infoStr1
  by_cases h0 : 0 < m
  · obtain ⟨b, off, rfl, hc⟩ := hr.flat h0
    refine wpList_append_own w hgd s x 32 ho base 9 i0 (.string ByteArray.empty) 1 16 Tryz.underlying32 hi hz0 hz1 hz2 rfl (by decide) v n (tc xs) hs hown ⟨b, off, none⟩ m c (tc ys) hx (by rw [tc_len, hr.len]; omega) (fun j u hu => ?_) (by intro u hu; obtain ⟨t, _, rfl⟩ := List.mem_map.1 hu; rfl) (by unfold maxLen; omega) (by omega) hbase ?_
    · have hj : j < ys.length := by
        have := (List.getElem?_eq_some_iff.1 hu).1
        rwa [tc_len] at this
      rw [add_flat, hc j (by rw [← hr.len]; exact hj)]
      simp [tc, List.getElem?_eq_getElem hj] at hu
      simp [List.getD, List.getElem?_eq_getElem hj, hu]
    · intro v' w' k1 k2 k3
      exact h v' w' (by rw [tc_app]; exact k1) (Keep.ofGrown k2)
  · have hm : m = 0 := by omega
    subst hm
    have hys : ys = [] := List.eq_nil_of_length_eq_zero hr.len
    subst hys
    have h' := h v w (by simpa using hown) (Keep.refl _ _)
    cases ao with
    | none =>
      have hc0 := hr.nil0 rfl
      subst hc0
      exact wpList_append_own_none hgd s x 32 ho base 9 i0 1 Tryz.underlying32 hi v n (tc xs) hs hown hx h'
    | some ad =>
      refine wpList_append_own w hgd s x 32 ho base 9 i0 (.string ByteArray.empty) 1 16 Tryz.underlying32 hi hz0 hz1 hz2 rfl (by decide) v n (tc xs) hs hown ad 0 c [] hx rfl (fun j u hu => by simp at hu) (by simp) (by unfold maxLen; omega) (by omega) hbase ?_
      intro v' w' k1 k2 k3
      exact h v' w' (by simpa using k1) (Keep.ofGrown k2)
end Go.Proofs.YtiplalbicibahaaGreatDoor

/- privacy: Default; a list's rules, written. -/
set_option maxRecDepth 100000
namespace Go.Proofs.YtiplalbicibahaaGreatDoor
open Go.RowKit Go.Joins Go.Shelf

/-! ### Default -/
def defaultR (P : Pl) (s : By) : Nat × Pl := if (!(s.isEmpty) && !((P.m s).isSome)) = true then (7, P) else (0, { P with us := s })
theorem LsM.usual {w : World} {F : Nat → Prop} {q mb : Nat} {m : By → Option Rw} {P : Pl} (h : LsM w F q mb m P) (s : By) : LsM (w.setCell ⟨q, 2, none⟩ (.string (ba s))) F q mb m { P with us := s } := by
  have hk := setK w q 2 (.string (ba s))
  have hb : (w.setCell ⟨q, 2, none⟩ (.string (ba s))).heap[q]? = some (.cells (lc { P with us := s } mb) 54 (0, 0)) := block_setCell (i := 2) h.blk (.string (ba s))
  exact ⟨hb, h.map.keep hk (fun e => h.ne e.symm), h.fq, h.fm, fun u => (h.tie u).keep hk (fun f g hf hg e => (h.row hf hg).1 e) (fun i hi => hi), fun i hi => Nat.lt_of_lt_of_le (h.lt i hi) hk.size, h.nd, h.mem⟩
set_option maxHeartbeats 1600000 in
theorem default_any (s : By) (w : World) (F : Nat → Prop) (q : Nat) (P : Pl) (h : LsAt w F q P) (hs : s.length ≤ 1000000) :
    Calls Tryz.prog 26 #[.pointer (some ⟨q, 0, none⟩), .string (ba s)] w fun e w' => e = .returned (.int .i64 ((defaultR P s).1 : Nat)) ∧ LsAt w' F q (defaultR P s).2 ∧ Keep F w w' := by
  obtain ⟨mb, m, h⟩ := h
  have cH := has_any s w F q mb m P h hs
  have cC := fun w => clone_any (ba s) w (by rw [ba_size]; omega)
  have HH : Hid (LsM w F q mb m P) := h
  have e1 : (ba s).toList.isEmpty = s.isEmpty := by rw [Lib.toList_data, ba_list]
  have e2 : ((ba s).toList == []) = s.isEmpty := by rw [Lib.toList_data, ba_list]; cases s <;> rfl
  unfold defaultR
  clear hs h
  generalize s.isEmpty = b1 at e1 e2 ⊢
  generalize (P.m s).isSome = b2 at cH ⊢
  cases b1 with
  | true =>
    rw [if_neg (by cases b2 <;> decide)]
    clear cH
    go_enter Tryz.func26, Tryz.ntmps26
    go_wp2_with (go_at_call 31; refine (cC _).mono ?_; clear cC; rintro e w1 ⟨rfl, hb1⟩; have H1 : Hid (LsM w1 F q mb m P) := HH.out.below hb1; have u2 := H1.out.c2; have fu := H1.out.fz 2)
    go_ret
    exact ⟨rfl, ⟨mb, m, H1.out.usual s⟩, (Keep.ofBelow hb1).trans ((setK w1 q 2 _).mono (fun i e => by rw [e]; exact HH.out.fq))⟩
  | false =>
    cases b2 with
    | true =>
      rw [if_neg (by decide)]
      go_enter Tryz.func26, Tryz.ntmps26
      go_wp2_with (first
        | (go_at_call 29; refine cH.mono ?_; clear cH; rintro e w0 ⟨rfl, hw0⟩; replace hw0 := hw0.symm; subst hw0)
        | (go_at_call 31; refine (cC _).mono ?_; clear cC; rintro e w1 ⟨rfl, hb1⟩; have H1 : Hid (LsM w1 F q mb m P) := HH.out.below hb1; have u2 := H1.out.c2; have fu := H1.out.fz 2))
      go_ret
      exact ⟨rfl, ⟨mb, m, H1.out.usual s⟩, (Keep.ofBelow hb1).trans ((setK w1 q 2 _).mono (fun i e => by rw [e]; exact HH.out.fq))⟩
    | false =>
      rw [if_pos (by decide)]
      clear cC
      go_enter Tryz.func26, Tryz.ntmps26
      go_wp2_with (go_at_call 29; refine cH.mono ?_; clear cH; rintro e w0 ⟨rfl, hw0⟩; replace hw0 := hw0.symm; subst hw0)
      go_ret
      exact ⟨rfl, ⟨mb, m, HH.out⟩, Keep.refl _ _⟩

/-! ### a list's rules, written -/
theorem new_ru2 (w : World) (p : Rul) : RuAt ((w.alloc oRul).setRow w.heap.size (rc p)) w.heap.size p ∧ Below w.heap.size w ((w.alloc oRul).setRow w.heap.size (rc p)) :=
  ⟨RuAt.set (w := w.alloc oRul) (r := r0) (push_at _ _ rfl) _, (below1 w oRul).trans ((rowK (w.alloc oRul) w.heap.size _).below (by simp) (fun j e => by omega))⟩
set_option maxHeartbeats 2000000 in
theorem ltexts_any (s : By) (w : World) (F : Nat → Prop) (q mb : Nat) (m : By → Option Rw) (P : Pl) (h : LsM w F q mb m P) (hs : s.length ≤ 1000000) (rs : List Rul) (hrs : (P.m s).getD [] = rs) (hl : rs.length ≤ 100000) (hz : ∀ r ∈ rs, r.k.length + r.v.length ≤ 281474976710000) :
    Calls Tryz.prog 34 #[.pointer (some ⟨q, 0, none⟩), .string (ba s)] w fun e w' => ∃ v, e = .returned v ∧ w'.ownsRow w.heap.size 9 1 v rs.length (tc (rs.map writtenR)) ∧ Below w.heap.size w w' := by
  have c3 := h.c3
  have hl1 := h.map.look1 s (by unfold maxLen; omega)
  have hR0 := (h.tie s).get
  rw [hrs] at hR0
  generalize (m s).getD (none, 0, 0) = f at hl1 hR0
  obtain ⟨fa, fn, fc⟩ := f
  have Hn : Hid (rs.length = fn) := hR0.len
  have hcm : fc ≤ maxLen := hR0.most
  have hcc : fn ≤ fc := hR0.cap
  have hln : fn ≤ 100000 := by rw [← Hn.out]; exact hl
  unfold maxLen at hcm
  have HR : Hid (RRd w (fa, fn, fc) rs) := hR0
  have HZ : Hid (∀ r ∈ rs, r.k.length + r.v.length ≤ 281474976710000) := hz
  clear hR0 hl hz h hrs hs
  unfold rsl at hl1
  dsimp only at hl1
  obtain ⟨A, HA⟩ : ∃ A : Option Addr, Hid ((fa.map fun g => (⟨g, 0, none⟩ : Addr)) = A) := ⟨_, rfl⟩
  rw [HA.out] at hl1
  go_enter Tryz.func34, Tryz.ntmps34
  go_upto_region 3 with fail
  go_loopw [5, 7, 15] (fun s5 _ s15 wr => ∃ (j : Nat) (v : Value), s5 = v ∧ s15 = .int .i64 j ∧ j ≤ fn ∧ Hid (wr.ownsRow w.heap.size 9 1 v j (tc ((rs.take j).map writtenR))) ∧ Hid (Below w.heap.size w wr)) (fun _ _ s15 _ => fn - (intOf s15).toNat)
  case atStart => exact ⟨0, _, rfl, rfl, by omega, World.ownsRow_nil .., Below.refl _ _⟩
  case round =>
    obtain ⟨j, v, h5, rfl, hjn, HO, HB⟩ := hrel
    replace h5 := h5.symm
    subst h5
    by_cases hlt : j < fn
    · have hcl : (j : Int) < (fn : Int) := by omega
      obtain ⟨gb, hgb, hrow⟩ := (HR.out.below HB.out).row (by show 0 < fn; omega)
      obtain ⟨y, hy⟩ : ∃ y, rs[j]? = some y := ⟨_, List.getElem?_eq_getElem (by rw [Hn.out]; exact hlt)⟩
      have hmid := hrow j y hy
      replace hgb : fa = some gb := hgb
      have hA := HA.out
      rw [hgb] at hA
      replace hA : A = some ⟨gb, 0, none⟩ := hA.symm
      subst hA
      have hyz := HZ.out y (List.mem_of_getElem? hy)
      have cW := fun w => written_any y w hyz
      have HX : Hid (tc ((rs.take (j + 1)).map writtenR) = tc ((rs.take j).map writtenR) ++ [.string (ba (writtenR y))]) := by
        show _ = _
        rw [List.take_add_one, hy, List.map_append, tc_app]; rfl
      have HM : Hid (wr.rangeAt gb (j * 5) (rc y).toList) := hmid
      have ov := HO.out
      obtain ⟨av, cv, hv⟩ := ownR_sl ov
      subst hv
      have hsz := HB.out.size
      clear hrow hmid hy hyz HO
      go_upto_region 5 with (first
        | (refine wpList_load_mid rfl 72 (.tmp 17) rfl gb (j * 5) rfl (rc y).toList _ HM.out Tryz.underlying72 rfl (by rw [infoRule]; rfl) ?_)
        | (refine wp_store_ru rfl (.tmp 7) (.tmp 18) rfl wr.heap.size rfl y (by rfl) r0 (push_at _ _ rfl) ?_))
      have A6 : Hid (RuAt ((wr.alloc oRul).setRow wr.heap.size (rc y)) wr.heap.size y ∧ Below wr.heap.size wr ((wr.alloc oRul).setRow wr.heap.size (rc y))) := new_ru2 wr y
      generalize (wr.alloc _).setRow _ _ = w6 at A6 ⊢
      have ov6 := own_keep (S := fun _ => False) ov (Keep.ofBelow A6.out.2) (fun _ _ h => h)
      have HB6 : Hid (Below w.heap.size w w6) := HB.out.trans (A6.out.2.mono hsz)
      clear ov HB hsz
      generalize wr.heap.size = g at A6 ⊢
      go_wp2_with (first
        | (refine wp_load_ru rfl (.tmp 7) rfl g rfl y A6.out.1 ?_)
        | (go_at_call 52; refine (cW _).mono ?_; clear cW; rintro e w8 ⟨rfl, hb8⟩; have ov8 := own_keep (S := fun _ => False) ov6 (Keep.ofBelow hb8) (fun _ _ h => h); have HB8 : Hid (Below w.heap.size w w8) := (show Below w.heap.size w w8 from HB6.out.trans (hb8.mono HB6.out.size)); have hz8 := HB8.out.size; clear ov6 hb8)
        | (at_builtin; refine wp_app1 32 9 _ 1 16 Tryz.underlying32 infoStr1 rfl (by decide) (by decide) rfl (.tmp 19) (.tmp 22) rfl w.heap.size (.slice av j cv) j (tc ((rs.take j).map writtenR)) rfl ov8 #[.string (ba (writtenR y))] rfl (by simp [Value.oneCell']) rfl (by omega) hz8 ?_; intro v7 w7 o7 k7 n7))
      have HB7 : Below w.heap.size w w7 := HB8.out.trans (k7.below hz8 (fun g' hg => (ov8.lt g' hg).1))
      refine ⟨⟨j + 1, _, rfl, by go_num, by omega, ?_, HB7⟩, by simp [intOf]; omega⟩
      show World.ownsRow _ _ _ _ _ _ _
      rw [HX.out]
      exact o7
    · have hcl : ¬ (j : Int) < (fn : Int) := by omega
      obtain rfl : j = fn := by omega
      have HX : Hid (rs.take j = rs) := List.take_of_length_le (by rw [Hn.out]; exact Nat.le_refl _)
      go_wp2
      go_ret
      refine ⟨_, rfl, ?_, HB.out⟩
      have h := HO.out
      rw [HX.out] at h
      rw [Hn.out]
      exact h
end Go.Proofs.YtiplalbicibahaaGreatDoor

/- privacy: rows of texts: rising? the same? -/
set_option maxRecDepth 100000
namespace Go.Proofs.YtiplalbicibahaaGreatDoor
open Go.RowKit Go.Joins Go.Shelf

def ltB (x y : By) : Bool := decide (x < y)
theorem less_eq (x y : By) : Op.bytesLess (ba x).toList (ba y).toList = ltB x y := by
  rw [ByteArray.toList_eq, ByteArray.toList_eq, bytesLess_eq, ba_list, ba_list]
  rfl
def riseN (ts : List By) (n : Nat) : Prop := ∀ i, i + 1 < n → ltB (ts.getD i []) (ts.getD (i + 1) []) = true
def riseR (ts : List By) : Bool := (List.range (ts.length - 1)).all fun i => ltB (ts.getD i []) (ts.getD (i + 1) [])
theorem riseR_yes {ts : List By} (h : riseN ts ts.length) : riseR ts = true := by
  unfold riseR
  rw [List.all_eq_true]
  intro i hi
  have := List.mem_range.1 hi
  exact h i (by omega)
theorem riseR_no {ts : List By} {i : Nat} (hi : i + 1 < ts.length) (h : ltB (ts.getD i []) (ts.getD (i + 1) []) = false) : riseR ts = false := by
  unfold riseR
  rw [List.all_eq_false]
  exact ⟨i, List.mem_range.2 (by omega), by rw [h]; decide⟩
set_option maxHeartbeats 1600000 in
theorem rise_any (a : Option Addr) (n c : Nat) (ts : List By) (w : World) (h : TRd w a n c ts) : Calls Tryz.prog 35 #[.slice a n c] w fun e w' => e = .returned (.bool (riseR ts)) ∧ Below w.heap.size w w' := by
  have Hn : Hid (ts.length = n) := h.len
  have hcap := h.cap
  have hmost := h.most
  unfold maxLen at hmost
  go_enter Tryz.func35, Tryz.ntmps35
  go_upto_region 2 with fail
  go_loopw [3] (fun s3 wr => ∃ j : Nat, s3 = .int .i64 ((j : Int) + 1) ∧ (j + 1 ≤ n ∨ j = 0) ∧ Hid (riseN ts (j + 1)) ∧ Hid (Below w.heap.size w wr)) (fun s3 _ => n + 1 - (intOf s3).toNat)
  case atStart => exact ⟨0, rfl, by omega, fun i hi => by omega, Below.refl _ _⟩
  case round =>
    obtain ⟨j, rfl, hj, HN, HB⟩ := hrel
    by_cases hlt : j + 1 < n
    · have hcl : (j : Int) + 1 < (n : Int) := by omega
      obtain ⟨b, off, rfl, hce⟩ := (h.below HB.out).flat (by omega)
      have u1 := hce j (by omega)
      have u2 := hce (j + 1) hlt
      have hle := less_eq (ts.getD j []) (ts.getD (j + 1) [])
      have hyes : Hid (ltB (ts.getD j []) (ts.getD (j + 1) []) = true → riseN ts (j + 1 + 1)) := fun hx i hi => by
        by_cases he : i = j
        · subst he; exact hx
        · exact HN.out i (by omega)
      have hno : Hid (ltB (ts.getD j []) (ts.getD (j + 1) []) = false → riseR ts = false) := fun hx => riseR_no (by rw [Hn.out]; exact hlt) hx
      generalize ts.getD j [] = X at *
      generalize ts.getD (j + 1) [] = Y at *
      generalize ba X = SX at *
      generalize ba Y = SY at *
      generalize ltB X Y = bb at *
      clear hce
      have k1 : (0 : Int) ≤ (j : Int) := by omega
      have k2 : (j : Int) < (n : Int) := by omega
      cases bb with
      | true =>
        have HY : Hid _ := hyes.out rfl
        clear hyes hno
        go_wp2_with fail
        go_region
        go_wp2
        refine ⟨⟨j + 1, by go_num, by omega, HY.out, HB.out.drew⟩, by simp [intOf]; omega⟩
      | false =>
        have HY : Hid (riseR ts = false) := hno.out rfl
        clear hyes hno
        go_wp2_with fail
        go_region
        go_wp2
        go_ret
        exact ⟨by rw [HY.out]; rfl, HB.out.drew⟩
    · have hcl : ¬ (j : Int) + 1 < (n : Int) := by omega
      have HC : Hid (riseR ts = true) := riseR_yes (fun i hi => HN.out i (by rw [Hn.out] at hi; omega))
      go_wp2
      go_ret
      exact ⟨by rw [HC.out]; rfl, HB.out⟩

/-! ### slices.Equal -/
set_option maxHeartbeats 1600000 in
theorem equal_any (a : Option Addr) (n c : Nat) (ts : List By) (a2 : Option Addr) (n2 c2 : Nat) (us : List By) (w : World) (h : TRd w a n c ts) (h2 : TRd w a2 n2 c2 us) :
    Calls Tryz.prog 36 #[.slice a n c, .slice a2 n2 c2] w fun e w' => e = .returned (.bool (ts == us)) ∧ Below w.heap.size w w' := by
  have Hn : Hid (ts.length = n ∧ us.length = n2) := ⟨h.len, h2.len⟩
  have hcap := h.cap
  have hmost := h.most
  unfold maxLen at hmost
  by_cases hd : n = n2
  · subst hd
    have hnn : ((n : Int) != (n : Int)) = false := by simp
    go_enter Tryz.func36, Tryz.ntmps36
    go_upto_region 4 with fail
    go_loopw [5, 13] (fun _ s13 wr => ∃ j : Nat, s13 = .int .i64 (j : Int) ∧ j ≤ n ∧ Hid (∀ i, i < j → ts.getD i [] = us.getD i []) ∧ Hid (Below w.heap.size w wr)) (fun _ s13 _ => n - (intOf s13).toNat)
    case atStart => exact ⟨0, rfl, by omega, fun i hi => by omega, Below.refl _ _⟩
    case round =>
      obtain ⟨j, rfl, hj, HN, HB⟩ := hrel
      by_cases hlt : j < n
      · have hcl : (j : Int) < (n : Int) := by omega
        obtain ⟨b, off, rfl, hce⟩ := (h.below HB.out).flat (by omega)
        obtain ⟨b2, off2, rfl, hce2⟩ := (h2.below HB.out).flat (by omega)
        have u1 := hce j (by omega)
        have u2 := hce2 j (by omega)
        have hle : ((ba (ts.getD j [])).toList == (ba (us.getD j [])).toList) = (ts.getD j [] == us.getD j []) := by rw [ba_eq, Lib.toList_data, ba_list]
        have hyes : Hid ((ts.getD j [] == us.getD j []) = true → ∀ i, i < j + 1 → ts.getD i [] = us.getD i []) := fun hx i hi => by
          by_cases he : i = j
          · subst he; exact beq_iff_eq.1 hx
          · exact HN.out i (by omega)
        have hno : Hid ((ts.getD j [] == us.getD j []) = false → (ts == us) = false) := fun hx => by
          rw [beq_eq_false_iff_ne] at hx ⊢
          exact fun e => hx (by rw [e])
        generalize (ts.getD j [] == us.getD j []) = bb at *
        generalize ba (ts.getD j []) = SX at *
        generalize ba (us.getD j []) = SY at *
        clear hce hce2
        cases bb with
        | true =>
          have HY : Hid _ := hyes.out rfl
          clear hyes hno
          go_wp2_with fail
          go_region
          go_wp2
          exact ⟨⟨j + 1, by go_num, by omega, HY.out, HB.out.drew⟩, by simp [intOf]; omega⟩
        | false =>
          have HY : Hid ((ts == us) = false) := hno.out rfl
          clear hyes hno
          go_wp2_with fail
          go_region
          go_wp2
          go_ret
          exact ⟨by rw [HY.out]; rfl, HB.out.drew⟩
      · have hcl : ¬ (j : Int) < (n : Int) := by omega
        have HC : Hid ((ts == us) = true) := by
          show _ = _
          rw [beq_iff_eq]
          have h1 := Hn.out.1
          have h2 := Hn.out.2
          refine List.ext_getElem (by omega) fun i hi1 hi2 => ?_
          have := HN.out i (by omega)
          rw [List.getD_eq_getElem?_getD, List.getD_eq_getElem?_getD, List.getElem?_eq_getElem hi1, List.getElem?_eq_getElem hi2] at this
          exact this
        go_wp2
        go_ret
        exact ⟨by rw [HC.out]; rfl, HB.out⟩
  · have hnn : ((n : Int) != (n2 : Int)) = true := by simp; omega
    have HC : Hid ((ts == us) = false) := by
      show _ = _
      rw [beq_eq_false_iff_ne]
      intro e
      have h1 := Hn.out.1
      have h2 := Hn.out.2
      rw [e] at h1
      omega
    go_enter Tryz.func36, Tryz.ntmps36
    go_wp2
    go_ret
    exact ⟨by rw [HC.out]; rfl, Below.refl _ _⟩
/-! ### roostkeep.Same -/
set_option maxHeartbeats 1600000 in
theorem same_any (a : Option Addr) (n c : Nat) (ts : List By) (a2 : Option Addr) (n2 c2 : Nat) (us : List By) (w : World) (h : TRd w a n c ts) (h2 : TRd w a2 n2 c2 us) :
    Calls Tryz.prog 20 #[.slice a n c, .slice a2 n2 c2] w fun e w' => e = .returned (.bool (ts == us)) ∧ Below w.heap.size w w' := by
  have Hn : Hid (ts.length = n ∧ us.length = n2) := ⟨h.len, h2.len⟩
  have hcap := h.cap
  have hmost := h.most
  unfold maxLen at hmost
  by_cases hd : n = n2
  · subst hd
    have hnn : ((n : Int) != (n : Int)) = false := by simp
    go_enter Tryz.func20, Tryz.ntmps20
    go_upto_region 4 with fail
    go_loopw [5] (fun s13 wr => ∃ j : Nat, s13 = .int .i64 (j : Int) ∧ j ≤ n ∧ Hid (∀ i, i < j → ts.getD i [] = us.getD i []) ∧ Hid (Below w.heap.size w wr)) (fun s13 _ => n - (intOf s13).toNat)
    case atStart => exact ⟨0, rfl, by omega, fun i hi => by omega, Below.refl _ _⟩
    case round =>
      obtain ⟨j, rfl, hj, HN, HB⟩ := hrel
      by_cases hlt : j < n
      · have hcl : (j : Int) < (n : Int) := by omega
        obtain ⟨b, off, rfl, hce⟩ := (h.below HB.out).flat (by omega)
        obtain ⟨b2, off2, rfl, hce2⟩ := (h2.below HB.out).flat (by omega)
        have u1 := hce j (by omega)
        have u2 := hce2 j (by omega)
        have hle : ((ba (ts.getD j [])).toList == (ba (us.getD j [])).toList) = (ts.getD j [] == us.getD j []) := by rw [ba_eq, Lib.toList_data, ba_list]
        have hyes : Hid ((ts.getD j [] == us.getD j []) = true → ∀ i, i < j + 1 → ts.getD i [] = us.getD i []) := fun hx i hi => by
          by_cases he : i = j
          · subst he; exact beq_iff_eq.1 hx
          · exact HN.out i (by omega)
        have hno : Hid ((ts.getD j [] == us.getD j []) = false → (ts == us) = false) := fun hx => by
          rw [beq_eq_false_iff_ne] at hx ⊢
          exact fun e => hx (by rw [e])
        generalize (ts.getD j [] == us.getD j []) = bb at *
        generalize ba (ts.getD j []) = SX at *
        generalize ba (us.getD j []) = SY at *
        clear hce hce2
        cases bb with
        | true =>
          have HY : Hid _ := hyes.out rfl
          clear hyes hno
          go_wp2_with fail
          go_region
          go_wp2
          exact ⟨⟨j + 1, by go_num, by omega, HY.out, HB.out.drew⟩, by simp [intOf]; omega⟩
        | false =>
          have HY : Hid ((ts == us) = false) := hno.out rfl
          clear hyes hno
          go_wp2_with fail
          go_region
          go_wp2
          go_ret
          exact ⟨by rw [HY.out]; rfl, HB.out.drew⟩
      · have hcl : ¬ (j : Int) < (n : Int) := by omega
        have HC : Hid ((ts == us) = true) := by
          show _ = _
          rw [beq_iff_eq]
          have h1 := Hn.out.1
          have h2 := Hn.out.2
          refine List.ext_getElem (by omega) fun i hi1 hi2 => ?_
          have := HN.out i (by omega)
          rw [List.getD_eq_getElem?_getD, List.getD_eq_getElem?_getD, List.getElem?_eq_getElem hi1, List.getElem?_eq_getElem hi2] at this
          exact this
        go_wp2
        go_ret
        exact ⟨by rw [HC.out]; rfl, HB.out⟩
  · have hnn : ((n : Int) != (n2 : Int)) = true := by simp; omega
    have HC : Hid ((ts == us) = false) := by
      show _ = _
      rw [beq_eq_false_iff_ne]
      intro e
      have h1 := Hn.out.1
      have h2 := Hn.out.2
      rw [e] at h1
      omega
    go_enter Tryz.func20, Tryz.ntmps20
    go_wp2
    go_ret
    exact ⟨by rw [HC.out]; rfl, Below.refl _ _⟩
end Go.Proofs.YtiplalbicibahaaGreatDoor

/- privacy: the document's lists: where a name stands. -/
set_option maxRecDepth 100000
namespace Go.Proofs.YtiplalbicibahaaGreatDoor
open Go.RowKit Go.Joins Go.Shelf

/-- How many names at the front lie below s. -/
def atK (ns : List By) (s : By) : Nat := (ns.takeWhile fun x => ltB x s).length
def atB (ns : List By) (s : By) : Bool := decide (atK ns s < ns.length) && (ns.getD (atK ns s) [] == s)
theorem atK_is {s : By} : ∀ {ns : List By} {k : Nat}, k ≤ ns.length → (∀ i, i < k → ltB (ns.getD i []) s = true) → (∀ _ : k < ns.length, ltB (ns.getD k []) s = false) → atK ns s = k
  | [], k, hk, _, _ => by
    have : k = 0 := by simpa using hk
    subst this; rfl
  | x :: r, 0, _, _, h2 => by
    have : ltB x s = false := h2 (by simp)
    unfold atK
    rw [List.takeWhile_cons, this]
    rfl
  | x :: r, k + 1, hk, h1, h2 => by
    have hx : ltB x s = true := h1 0 (by omega)
    have ih := atK_is (s := s) (ns := r) (k := k) (by simpa using hk) (fun i hi => h1 (i + 1) (by omega)) (fun h => h2 (by simpa using h))
    unfold atK at ih ⊢
    rw [List.takeWhile_cons, hx]
    simp [ih]
set_option maxHeartbeats 3200000 in
theorem qat_any (q : Nat) (s : By) (a : Option Addr) (n c : Nat) (ns : List By) (w : World) (u3 : w.cell? ⟨q, 3, none⟩ = some (.slice a n c)) (h : TRd w a n c ns) :
    Calls Tryz.prog 42 #[.pointer (some ⟨q, 0, none⟩), .string (ba s)] w fun e w' => e = .returned (.tuple #[.int .i64 (atK ns s : Nat), .bool (atB ns s)]) ∧ Below w.heap.size w w' := by
  have Hn : Hid (ns.length = n) := h.len
  have hcap := h.cap
  have hmost := h.most
  unfold maxLen at hmost
  have U3 : Hid (w.cell? ⟨q, 3, none⟩ = some (.slice a n c)) := u3
  go_enter Tryz.func42, Tryz.ntmps42
  go_upto_region 2 with fail
  clear u3
  go_loopw [6] (fun s6 wr => ∃ k : Nat, s6 = .int .i64 (k : Int) ∧ k ≤ n ∧ Hid (∀ i, i < k → ltB (ns.getD i []) s = true) ∧ Hid (Below w.heap.size w wr)) (fun s6 _ => n - (intOf s6).toNat)
  case atStart => exact ⟨0, rfl, by omega, fun i hi => by omega, Below.refl _ _⟩
  case round =>
    obtain ⟨k, rfl, hk, HN, HB⟩ := hrel
    have u3 : wr.cell? ⟨q, 3, none⟩ = some (.slice a n c) := (HB.out.cell (World.block_lt_of_cell? w _ U3.out)).trans U3.out
    by_cases hlt : k < n
    · have hcl : (k : Int) < (n : Int) := by omega
      obtain ⟨b, off, rfl, hce⟩ := (h.below HB.out).flat (by omega)
      have u1 := hce k hlt
      have hle := less_eq (ns.getD k []) s
      have heq : ((ba (ns.getD k [])).toList == (ba s).toList) = (ns.getD k [] == s) := by rw [ba_eq, Lib.toList_data, ba_list]
      have hyes : Hid (ltB (ns.getD k []) s = true → ∀ i, i < k + 1 → ltB (ns.getD i []) s = true) := fun hx i hi => by
        by_cases he : i = k
        · subst he; exact hx
        · exact HN.out i (by omega)
      have hno : Hid (ltB (ns.getD k []) s = false → atK ns s = k ∧ atB ns s = (ns.getD k [] == s)) := fun hx => by
        have e := atK_is (ns := ns) (k := k) (by rw [Hn.out]; exact hk) HN.out (fun _ => hx)
        refine ⟨e, ?_⟩
        unfold atB
        rw [e, decide_eq_true (by rw [Hn.out]; exact hlt), Bool.true_and]
      generalize ltB (ns.getD k []) s = bb at *
      generalize (ns.getD k [] == s) = ee at *
      generalize ba (ns.getD k []) = SX at *
      generalize ba s = SY at *
      clear hce
      cases bb with
      | true =>
        have HY : Hid _ := hyes.out rfl
        clear hyes hno heq
        go_wp2
        exact ⟨⟨k + 1, by go_num, by omega, HY.out, HB.out⟩, by simp [intOf]; omega⟩
      | false =>
        have HY : Hid _ := hno.out rfl
        clear hyes hno
        have u1d : wr.drew.cell? ⟨b, off + k, none⟩ = some (.string SX) := u1
        have u3d : wr.drew.cell? ⟨q, 3, none⟩ = some (.slice (some ⟨b, off, none⟩) n c) := u3
        go_upto_region 4 with fail
        go_quiet (fail)
        go_wp2
        go_ret2
        refine ⟨?_, HB.out.trans ((keepDrew (fun _ => False) wr nq).below HB.out.size (fun j e => e.elim))⟩
        rw [HY.out.1, HY.out.2]
        rfl
    · have hcl : ¬ (k : Int) < (n : Int) := by omega
      have HC : Hid (atK ns s = k ∧ atB ns s = false) := by
        have e := atK_is (ns := ns) (s := s) (k := k) (by rw [Hn.out]; exact hk) HN.out (fun hx => by rw [Hn.out] at hx; omega)
        refine ⟨e, ?_⟩
        unfold atB
        rw [e, decide_eq_false (by rw [Hn.out]; exact hlt), Bool.false_and]
      have u3d : wr.drew.cell? ⟨q, 3, none⟩ = some (.slice a n c) := u3
      go_upto_region 4 with fail
      go_quiet (fail)
      go_wp2
      go_ret2
      refine ⟨?_, HB.out.trans ((keepDrew (fun _ => False) wr nq).below HB.out.size (fun j e => e.elim))⟩
      rw [HC.out.1, HC.out.2]
      rfl
end Go.Proofs.YtiplalbicibahaaGreatDoor
