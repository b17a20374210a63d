/- Texts of one seat, one behind the other: DkW, DkVr, DkVc, DkVw, DkVn, LgA, LgB, ShelfL. -/
import Derived.Test.YtikkieaokfailaaGreatDoorM2
import Derived.Shelf.SlGeneric
import Derived.Shelf.Strconv.Itoa3
import Derived.Shelf.Strings.Prefix
import Derived.Shelf.Bytes.SlEqualAll
import Derived.Shelf.SlicesE.IndexFunc
import Derived.Shelf.Spec.SearchS
import Derived.Ground.NamesProg
import Derived.Ground.Names2Prog
import Derived.Ground.SlgfProg
import Derived.Test.YtikkieaokfailaaGreatDoorProg
namespace Go.Proofs.YtikkieaokfailaaGreatDoor
open Go.RowKit Go.Joins
theorem steps_any (d : Nat) (F : Nat → Prop) (k : Dk) (w : World) (hDk : DiskAt w F d k) : Calls Tryz.prog 42 #[.pointer (some ⟨d, 0, none⟩)] w fun e w' => e = .returned (.int .i64 (k.steps : Int)) ∧ w' = w := by
 obtain ⟨⟨bm, m, hD, _⟩, _⟩ := hDk
 have q : w.cell? ⟨d, 3, none⟩ = some (.int .i64 (k.steps : Int)) := hD.c3
 clear hD
 go_enter Tryz.func42, Tryz.ntmps42
 go_wp2
 go_ret
 exact ⟨rfl, rfl⟩
theorem used_any (d : Nat) (F : Nat → Prop) (k : Dk) (w : World) (hDk : DiskAt w F d k) : Calls Tryz.prog 43 #[.pointer (some ⟨d, 0, none⟩)] w fun e w' => e = .returned (.int .i64 (used k.fs : Int)) ∧ w' = w := by
 obtain ⟨⟨bm, m, hD, _⟩, _⟩ := hDk
 have q : w.cell? ⟨d, 2, none⟩ = some (.int .i64 (used k.fs : Int)) := hD.c2
 clear hD
 go_enter Tryz.func43, Tryz.ntmps43
 go_wp2
 go_ret
 exact ⟨rfl, rfl⟩
theorem newK_good {room : Nat} (h : room ≤ 16777216) : (newK room).Good := ⟨h, trivial, Nat.zero_le _, (fun p hp => by cases hp), (fun n e => by cases e)⟩
theorem new_ok (room : Nat) (h : room ≤ 16777216) (w : World) : Calls Tryz.prog 14 #[.int .i64 (room : Int)] w fun e w' => ∃ d, e = .returned (.tuple #[.pointer (some ⟨d, 0, none⟩), .int .i64 0]) ∧ (∃ F, DiskAt w' F d (newK room) ∧ ∀ i, F i → w.heap.size ≤ i) ∧ Below w.heap.size w w' := by
 have h1 : ¬ (room : Int) < 0 := by omega
 have h2 : ¬ 16777216 < (room : Int) := by omega
 have hmk := fun w : World => run_makeMap (P := Tryz.prog) 99 w
 go_enter Tryz.func14, Tryz.ntmps14
 go_wp2
 go_ret2
 have hB : Below w.heap.size w ((w.alloc (.map #[] 0)).alloc (.cells (rcs (rawK (newK room)) w.heap.size) 101)) := ((Below.refl _ _).alloc (Nat.le_refl _) _).alloc (by simp) _
 refine ⟨w.heap.size + 1, rfl, ⟨fun i => i = w.heap.size ∨ i = w.heap.size + 1, DiskAt.of (bm := w.heap.size) (n := 0) (m := fun _ => none) ⟨?_, ?_⟩ (Or.inl rfl) (fun s => trivial) (fun s t c e g _ h => by cases h) (Or.inr rfl) (fun i hi => ?_) (newK_good h), fun i hi => ?_⟩, hB⟩
 ·have := alloc_at (w.alloc (.map #[] 0)) (.cells (rcs (rawK (newK room)) w.heap.size) 101)
  rw [show (w.alloc (.map #[] 0)).heap.size = w.heap.size + 1 by simp] at this
  exact this
 ·exact (FMap.made w).keep (S := fun _ => False) ((Keep.refl _ _).alloc _) (fun h => h)
 ·have e : ((w.alloc (.map #[] 0)).alloc (.cells (rcs (rawK (newK room)) w.heap.size) 101)).heap.size = w.heap.size + 2 := by simp
  show i < ((w.alloc (.map #[] 0)).alloc (.cells (rcs (rawK (newK room)) w.heap.size) 101)).heap.size
  rw [e]
  omega
 ·omega
theorem read_bad (bd bn br d : Nat) (s : Nm) (en : Nat) (W : World) (hd : W.heap[bd]? = some (.cells #[.pointer (some ⟨d, 0, none⟩)] 36 (0, 0))) (hn : W.heap[bn]? = some (.cells #[.string s] 9 (0, 0)))
  (hF : Calls Tryz.prog 89 #[.pointer (some ⟨d, 0, none⟩), .string s] W fun e w' => e = .panicked (gaveUp en) ∧ Below W.heap.size W w') :
  Calls Tryz.prog 88 #[.pointer (some ⟨bd, 0, none⟩), .pointer (some ⟨bn, 0, none⟩), .pointer (some ⟨br, 0, none⟩)] W fun e w' => e = .panicked (gaveUp en) ∧ Below W.heap.size W w' := by
 have q := box_cell hn
 have q1 := box_cell hd
 clear hn hd
 go_enter Tryz.func88, Tryz.ntmps88
 go_wp2_with (first
  | (go_at_call 89; refine hF.mono ?_; rintro e w1 ⟨rfl, hb1⟩))
 exact ⟨rfl, rfl, hb1⟩
theorem Rd.ofRow {w : World} {B : Nat} {A : Option Addr} {n c : Nat} {xs : List Int} (h : w.ownsRow B 5 1 (.slice A n c) n (bc xs)) (hb : Bd xs) : Rd w A n c xs := by
 obtain ⟨a, c', e, hR⟩ := Rd.ofOwn h hb
 cases e
 exact hR
set_option maxHeartbeats 1000000 in
theorem read_go (bd bn br d : Nat) (F : Nat → Prop) (k : Dk) (s : Nm) (hs : isNm s = true) (f : Fle) (hlk : look k.fs s = some f) (W : World) (hDk : DiskAt W F d k)
  (hn : W.heap[bn]? = some (.cells #[.string s] 9 (0, 0))) (hd : W.heap[bd]? = some (.cells #[.pointer (some ⟨d, 0, none⟩)] 36 (0, 0))) (hr : W.heap[br]? = some (.cells #[.slice none 0 0] 29 (0, 0))) :
  Calls Tryz.prog 88 #[.pointer (some ⟨bd, 0, none⟩), .pointer (some ⟨bn, 0, none⟩), .pointer (some ⟨br, 0, none⟩)] W fun e w' =>
   e = .returned (.tuple #[]) ∧ ∃ v, w'.heap[br]? = some (.cells #[v] 29 (0, 0)) ∧ w'.ownsRow W.heap.size 5 1 v f.b.length (bc f.b) ∧ Keep (fun i => i = br) W w' := by
 have q := box_cell hn
 have q1 := box_cell hd
 have hgood := hDk.good
 have hroom := hgood.room
 have hused := hgood.used
 have hlenO := lenO_used k.fs s
 obtain ⟨_, hsf1, hbd⟩ := look_good hgood hlk
 obtain ⟨⟨bm, m, hD, hbm, ht, ha⟩, fd, lt, _⟩ := hDk
 have htie := ht s
 rw [hlk] at htie
 obtain ⟨⟨a, ln, cp, sf⟩, hm, h1, h2, hown, hFr⟩ := htie.some'
 dsimp only at h1 h2
 subst h1
 subst h2
 rw [hlk] at hlenO
 have hfl2 : f.b.length ≤ used k.fs := hlenO
 have hfind := find_ok d bm _ _ m s hs a _ cp _ hm W hD
 obtain ⟨A, hA⟩ : ∃ A : Option Addr, (a.map fun g => (⟨g, 0, none⟩ : Addr)) = A := ⟨_, rfl⟩
 have hslv : slv (a, f.b.length, cp, (f.safe : Int)) = .slice A f.b.length cp := by unfold slv; rw [hA]
 rw [hA] at hfind
 rw [hslv] at hown
 obtain ⟨ln, hln⟩ : ∃ ln, f.b.length = ln := ⟨_, rfl⟩
 rw [hln] at hfind hown hfl2 ⊢
 have hR : Rd W A ln cp f.b := Rd.ofRow hown hbd
 clear hln hn hd hslv hm htie hlenO
 have hfd : ∀ w, (Instr.field 106 (.agg #[.slice A ln cp, .int .i64 (f.safe : Int)]) 0).run Tryz.prog w = .ok (.slice A ln cp) w := fun w => by simp [Instr.field, go_sem, asAgg]
 go_enter Tryz.func88, Tryz.ntmps88
 go_wp2_with (first
  | (go_at_call 89; refine hfind.mono ?_; rintro e w1 ⟨rfl, hb1⟩)
  | (go_at_call 66; refine (bcloneO A ln cp f.b w1 (hR.carry (Nat.le_refl _) hb1) (by omega)).mono ?_; rintro e w2 ⟨v, rfl, hown2, hb2⟩; obtain ⟨a5, cp5, rfl, hob5⟩ := own_form hown2; have hb3 := hb1.trans (hb2.mono hb1.size); have hr3 := box_below hr hb3; have q3 := box_cell hr3; have z3 := unfrozen_of_block hr3 0))
 go_end0
 have hrl := (Array.getElem?_eq_some_iff.1 hr).1
 refine ⟨rfl, _, block_setCell (i := 0) hr3 _, own_weak (own_keep hown2 ((Keep.refl (fun i => i = br) w2).setCell (p := ⟨br, 0, none⟩) rfl _) (fun g hg e => ?_)) hb1.size, ((Keep.ofBelow (S := fun i => i = br) hb3).setCell (p := ⟨br, 0, none⟩) rfl _)⟩
 have h1 := (hown2.lt g hg).1
 have h2 := hb1.size
 omega
theorem readK_cases (k : Dk) (on : k.off = false) (s : Nm) :
  (∃ en, ((isNm s = false ∧ en = 4) ∨ (isNm s = true ∧ look k.fs s = none ∧ en = 7)) ∧ en ≠ 0 ∧ readK k s = (en, [])) ∨
  (∃ f, isNm s = true ∧ look k.fs s = some f ∧ readK k s = (0, f.b)) := by
 unfold readK
 rw [if_neg (by rw [on]; decide)]
 by_cases h1 : isNm s = false
 ·exact Or.inl ⟨4, Or.inl ⟨h1, rfl⟩, by decide, by rw [if_pos h1]⟩
 ·have h1' : isNm s = true := by simpa using h1
  rw [if_neg h1]
  cases h2 : look k.fs s with
  | none => exact Or.inl ⟨7, Or.inr ⟨h1', rfl, rfl⟩, by decide, rfl⟩
  | some f => exact Or.inr ⟨f, h1', rfl, rfl⟩
set_option maxHeartbeats 1000000 in
theorem read_any (d : Nat) (F : Nat → Prop) (k : Dk) (s : Nm) (w : World) (hDk : DiskAt w F d k) :
  Calls Tryz.prog 38 #[.pointer (some ⟨d, 0, none⟩), .string s] w fun e w' => ∃ v, e = .returned (.tuple #[v, .int .i64 (readK k s).1]) ∧ w'.ownsRow w.heap.size 5 1 v (readK k s).2.length (bc (readK k s).2) ∧ Below w.heap.size w w' := by
 have hmf : ∀ (fn : Fn) (first cap : Array Value) (w : World), (Instr.makeFunc fn first cap).run Tryz.prog w = .ok (.func fn first cap) w := fun _ _ _ _ => rfl
 obtain ⟨W, hW⟩ : ∃ W, ((w.alloc (.cells #[.pointer (some ⟨d, 0, none⟩)] 36)).alloc (.cells #[.string s] 9)).alloc (.cells #[.slice none 0 0] 29) = W := ⟨_, rfl⟩
 have hB : Below w.heap.size w W := by rw [← hW]; exact (((Below.refl _ _).alloc (Nat.le_refl _) _).alloc (by simp) _).alloc (by simp; omega) _
 have b0 : W.heap[w.heap.size]? = some (.cells #[.pointer (some ⟨d, 0, none⟩)] 36 (0, 0)) := by rw [← hW]; exact alloc3_at w _ _ _
 have b1 : W.heap[w.heap.size + 1]? = some (.cells #[.string s] 9 (0, 0)) := by rw [← hW]; exact (by simpa using alloc2_at (w.alloc (.cells #[.pointer (some ⟨d, 0, none⟩)] 36)) (.cells #[.string s] 9) (.cells #[.slice none 0 0] 29))
 have b2 : W.heap[w.heap.size + 1 + 1]? = some (.cells #[.slice none 0 0] 29 (0, 0)) := by rw [← hW]; exact (by simpa using alloc_at ((w.alloc (.cells #[.pointer (some ⟨d, 0, none⟩)] 36)).alloc (.cells #[.string s] 9)) (.cells #[.slice none 0 0] 29))
 have hDW := hDk.below hB
 have hA : Calls Tryz.prog 48 #[.pointer (some ⟨d, 0, none⟩), .func (.func 88) #[] #[.pointer (some ⟨w.heap.size, 0, none⟩), .pointer (some ⟨w.heap.size + 1, 0, none⟩), .pointer (some ⟨w.heap.size + 1 + 1, 0, none⟩)]] W fun e w' => e = .returned (.int .i64 (readK k s).1) ∧ ∃ v, w'.heap[w.heap.size + 1 + 1]? = some (.cells #[v] 29 (0, 0)) ∧ w'.ownsRow W.heap.size 5 1 v (readK k s).2.length (bc (readK k s).2) ∧ Keep (fun i => i = w.heap.size + 1 + 1) W w' := by
  have hc4 : W.cell? ⟨d, 4, none⟩ = some (.bool k.off) := by
   obtain ⟨⟨bm, m, h, _⟩, _⟩ := hDW
   exact h.c4
  have hnil : ∀ w', Below W.heap.size W w' → ∃ v, w'.heap[w.heap.size + 1 + 1]? = some (.cells #[v] 29 (0, 0)) ∧ w'.ownsRow W.heap.size 5 1 v ([] : List Int).length (bc []) ∧ Keep (fun i => i = w.heap.size + 1 + 1) W w' := fun w' hb => ⟨_, box_below b2 hb, ⟨rfl, Or.inl ⟨rfl, rfl⟩⟩, Keep.ofBelow hb⟩
  cases on : k.off with
  | true =>
   have e : readK k s = (13, []) := by unfold readK; rw [on]; rfl
   rw [e]
   rw [on] at hc4
   refine (attempt_down d _ _ W hc4).mono ?_
   rintro e w' ⟨rfl, hb⟩
   exact ⟨rfl, hnil w' hb⟩
  | false =>
   rw [on] at hc4
   have hb1 : Below W.heap.size W (W.alloc (.cells #[.int .i64 0] 37)) := (Below.refl _ _).alloc (Nat.le_refl _) _
   have hD1 := hDW.below hb1
   have g0 := box_below b0 hb1
   have g1 := box_below b1 hb1
   have g2 := box_below b2 hb1
   have ge := alloc_at W (.cells #[.int .i64 0] 37)
   have hWs : w.heap.size + 1 + 1 < W.heap.size := (Array.getElem?_eq_some_iff.1 b2).1
   have hVs : (W.alloc (.cells #[.int .i64 0] 37)).heap.size = W.heap.size + 1 := by simp
   rcases readK_cases k on s with ⟨en, hen, hne, e⟩ | ⟨f, hs, hlk, e⟩
   ·rw [e]
    refine (attempt_go d _ _ en (fun w' => Below W.heap.size W w') W (enters_of Tryz.func88 (by kernel_rfl) rfl) hc4 ((read_bad _ _ _ d s en _ g0 g1 (find_bad d F k s _ hD1 en hen)).mono ?_)).mono ?_
    ·rintro e w' ⟨rfl, hbe⟩
     exact ⟨gv_no hne rfl, hb1.trans (hbe.mono hb1.size), box_below ge hbe⟩
    ·rintro e w' ⟨rfl, w1, hb, rfl⟩
     exact ⟨rfl, hnil _ (hb.setCell (p := ⟨W.heap.size, 0, none⟩) (Nat.le_refl _) _)⟩
   ·rw [e]
    refine (attempt_go d _ _ 0 (fun w' => ∃ v, w'.heap[w.heap.size + 1 + 1]? = some (.cells #[v] 29 (0, 0)) ∧ w'.ownsRow (W.heap.size + 1) 5 1 v f.b.length (bc f.b) ∧ Keep (fun i => i = w.heap.size + 1 + 1) W w') W (enters_of Tryz.func88 (by kernel_rfl) rfl) hc4 ((read_go _ _ _ d F k s hs f hlk _ hD1 g1 g0 g2).mono ?_)).mono ?_
    ·rintro e w' ⟨rfl, v, hv, ho, hk⟩
     rw [hVs] at ho
     exact ⟨Or.inl ⟨rfl, rfl⟩, ⟨v, hv, ho, (Keep.ofBelow hb1).trans hk⟩, box_keep ge hk (by omega)⟩
    ·rintro e w' ⟨rfl, w1, ⟨v, hv, ho, hk⟩, rfl⟩
     have hk2 : Keep (fun i => i = W.heap.size) w1 (w1.setCell ⟨W.heap.size, 0, none⟩ (.int .i64 ((0 : Nat) : Int))) := (Keep.refl (fun i => i = W.heap.size) w1).setCell (p := ⟨W.heap.size, 0, none⟩) rfl _
     exact ⟨rfl, v, box_keep hv hk2 (by omega), own_weak (own_keep ho hk2 (fun g hg e => by have := (ho.lt g hg).1; omega)) (by omega), hk.setNew (Nat.le_refl _) _⟩
 have c0 := box_cell b0
 have hWs : w.heap.size + 1 + 1 < W.heap.size := (Array.getElem?_eq_some_iff.1 b2).1
 clear hDW
 obtain ⟨P, hP⟩ : ∃ P, readK k s = P := ⟨_, rfl⟩
 rw [hP] at hA ⊢
 clear hP
 obtain ⟨en, xs⟩ := P
 dsimp only at hA ⊢
 go_enter Tryz.func38, Tryz.ntmps38
 go_upto_region 2 with (first
  | (go_at_call 48; refine hA.mono ?_; rintro e w1 ⟨rfl, v, hv, ho, hk⟩; obtain ⟨a5, cp5, rfl, hob5⟩ := own_form ho; have q2 := box_cell hv; have z2 := unfrozen_of_block hv 0))
 clear hW hA c0
 have hv2 := block_setCell (i := 0) hv (.slice (a5.map fun g => ⟨g, 0, none⟩) xs.length cp5)
 have q3 := cell_of_block hv2 0
 simp at q3
 obtain ⟨A5, hA5⟩ : ∃ A5 : Option Addr, (a5.map fun g => (⟨g, 0, none⟩ : Addr)) = A5 := ⟨_, rfl⟩
 obtain ⟨ln, hln⟩ : ∃ ln, xs.length = ln := ⟨_, rfl⟩
 have HLN : Hid (xs.length = ln) := hln
 rw [hA5, hln] at q2 q3 ho
 clear hv2 hln hA5 hob5
 go_wp2
 have hk2 : Keep (fun i => i = w.heap.size + 1 + 1) w1 (w1.setCell ⟨w.heap.size + 1 + 1, 0, none⟩ (.slice A5 ln cp5)) := (Keep.refl (fun i => i = w.heap.size + 1 + 1) w1).setCell (p := ⟨w.heap.size + 1 + 1, 0, none⟩) rfl _
 refine bodyPost_ret (v := .tuple #[.slice A5 ln cp5, .int .i64 (en : Int)]) (by simp [results, Tryz.results38, go_sem, q3]) rfl ⟨_, rfl, ?_, ?_⟩
 ·rw [HLN.out]
  exact own_weak (own_keep ho hk2 (fun g hg e => by have := (ho.lt g hg).1; omega)) hB.size
 exact hB.trans ((hk.trans hk2).below hB.size (fun i hi => by omega))
end Go.Proofs.YtikkieaokfailaaGreatDoor

namespace Go.Proofs.YtikkieaokfailaaGreatDoor
open Go.RowKit Go.Joins
theorem remove_bad (bd bn d : Nat) (s : Nm) (en : Nat) (W : World) (hd : W.heap[bd]? = some (.cells #[.pointer (some ⟨d, 0, none⟩)] 36 (0, 0))) (hn : W.heap[bn]? = some (.cells #[.string s] 9 (0, 0)))
  (hF : Calls Tryz.prog 89 #[.pointer (some ⟨d, 0, none⟩), .string s] W fun e w' => e = .panicked (gaveUp en) ∧ Below W.heap.size W w') :
  Calls Tryz.prog 167 #[.pointer (some ⟨bd, 0, none⟩), .pointer (some ⟨bn, 0, none⟩)] W fun e w' => e = .panicked (gaveUp en) ∧ Below W.heap.size W w' := by
 have q := box_cell hn
 have q1 := box_cell hd
 clear hn hd
 go_enter Tryz.func167, Tryz.ntmps167
 go_wp2_with (first
  | (go_at_call 89; refine hF.mono ?_; rintro e w1 ⟨rfl, hb1⟩))
 exact ⟨rfl, rfl, hb1⟩
set_option maxRecDepth 100000 in
set_option maxHeartbeats 4000000 in
theorem remove_go (bd bn d : Nat) (F : Nat → Prop) (k : Dk) (on : k.off = false) (s : Nm) (hs : isNm s = true) (f : Fle) (hlk : look k.fs s = some f) (hst : k.steps < 1000000) (W : World) (hDk : DiskAt W F d k)
  (hn : W.heap[bn]? = some (.cells #[.string s] 9 (0, 0))) (hd : W.heap[bd]? = some (.cells #[.pointer (some ⟨d, 0, none⟩)] 36 (0, 0))) (hFn : ¬ F bn) (hFd : ¬ F bd) :
  Calls Tryz.prog 167 #[.pointer (some ⟨bd, 0, none⟩), .pointer (some ⟨bn, 0, none⟩)] W fun e w' =>
   (((passK k).1 ≠ 0 ∧ e = .panicked (gaveUp (passK k).1) ∧ Dp W F d (passK k).2 w') ∨ ((passK k).1 = 0 ∧ e = .returned (.tuple #[]) ∧ Dp W F d { (passK k).2 with fs := dropL (passK k).2.fs s } w')) := by
 have hmax : s.size ≤ maxLen := by have := isNm_size hs; unfold maxLen; omega
 have q := box_cell hn
 have q1 := box_cell hd
 have hgood := hDk.good
 have hroom := hgood.room
 have hused := hgood.used
 have hlenO := lenO_used k.fs s
 obtain ⟨⟨bm, m, hD, hbm, ht, ha⟩, fd, lt, _⟩ := hDk
 have htie := ht s
 rw [hlk] at htie
 obtain ⟨⟨a, ln, cp, sf⟩, hm, h1, h2, hown, hFr⟩ := htie.some'
 dsimp only at h1 h2
 subst h1
 rw [hlk] at hlenO
 have hfl2 : f.b.length ≤ used k.fs := hlenO
 have hfind := find_ok d bm _ _ m s hs a _ cp _ hm W hD
 have hP := fun w' hDR => pass_R w' d bm k.fs.length k m hDR hgood on hst
 have hpfs := pass_fs k
 have hpg := good_pass hgood
 obtain ⟨P, HPe⟩ : ∃ P, Hid (passK k = P) := ⟨_, rfl⟩
 rw [HPe.out] at hP hpfs hpg ⊢
 obtain ⟨en, k2⟩ := P
 dsimp only at hP hpfs hpg ⊢
 obtain ⟨A, hA⟩ : ∃ A : Option Addr, (a.map fun g => (⟨g, 0, none⟩ : Addr)) = A := ⟨_, rfl⟩
 rw [hA] at hfind
 have HLN : Hid (ln = f.b.length) := h2
 clear HPe h2
 go_enter Tryz.func167, Tryz.ntmps167
 go_upto_region 1 with (first
  | (go_at_call 89; refine hfind.mono ?_; rintro e Z ⟨rfl, hbe⟩))
 have hDZ := hD.below hbe
 have htZ : ∀ t, Tie Z F (m t) (look k.fs t) := fun t => (ht t).keep (S := fun _ => False) (Keep.ofBelow hbe) (fun _ _ _ _ h => h) (fun _ h => h)
 have ltZ : ∀ i, F i → i < Z.heap.size := fun i hi => Nat.lt_of_lt_of_le (lt i hi) hbe.size
 have hdZ := box_below hd hbe
 have hnZ := box_below hn hbe
 have p1 := box_cell hdZ
 rcases gv_split (hP Z hDZ) with ⟨h0, hc'⟩ | ⟨h0, hc'⟩
 ·go_upto_region 2 with (first
   | (go_at_call 53; refine hc'.mono ?_; rintro e w3 ⟨rfl, hD3, hk3⟩))
  obtain ⟨x1, x2, x3⟩ := DiskAt.cells hbm htZ ha fd ltZ hDZ.blk hk3 hD3 hpfs hpg
  have hd3 := box_cell (box_keep hdZ x3 hFd)
  have hn3 := box_cell (box_keep hnZ x3 hFn)
  have hoL : ((m s).getD fv0).2.1 = ln := by rw [hm]; rfl
  have hPt := drop_any d bm k.fs.length (rawK k2) m s hmax w3 hD3 (by simp [rawK]) (by simp [rawK, hpfs]; omega) (by rw [hoL, HLN.out]; omega)
  rw [hoL] at hPt
  clear hoL hc' hP
  go_wp2_with (first
   | (go_at_call 147; refine hPt.mono ?_; rintro e w7 ⟨rfl, hD7, hk7⟩))
  go_end0
  refine Or.inr ⟨h0, rfl, ?_⟩
  have hup := used_drop k.fs hgood.rise s
  rw [hlk] at hup
  have hle : lenO (some f) = f.b.length := rfl
  rw [hle] at hup
  have hraw : rawK { k2 with fs := dropL k2.fs s } = { rawK k2 with used := (rawK k2).used - (ln : Int) } := by
   unfold rawK
   congr 1
   show ((used (dropL k2.fs s) : Nat) : Int) = ((used k2.fs : Nat) : Int) - (ln : Int)
   rw [hpfs]
   have := HLN.out
   omega
  rw [← hraw] at hD7
  have hbl3 : FMap w3 bm k2.fs.length m := by rw [hpfs]; exact hD3.map
  obtain ⟨y1, _, _, y4⟩ := DiskAt.dropped (k := k2) (k1 := { k2 with fs := dropL k2.fs s }) (s := s) hbm x2 ha fd x1.lt hD3.blk hbl3 hk7 hD7 rfl (good_drop hpg s)
  exact Dp.from hbe (Dp.next x3 (fun i hi => Or.inl hi) ⟨F, y1, y4, fun _ h => Or.inl h⟩)
 ·clear hP
  go_wp2_with (first
   | (go_at_call 53; refine hc'.mono ?_; rintro e w3 ⟨rfl, hD3, hk3⟩))
  obtain ⟨x1, _, x3⟩ := DiskAt.cells hbm htZ ha fd ltZ hDZ.blk hk3 hD3 hpfs hpg
  exact ⟨rfl, Or.inl ⟨h0, rfl, Dp.from hbe ⟨F, x1, x3, fun _ h => Or.inl h⟩⟩⟩
set_option maxHeartbeats 1000000 in
theorem remove_any (d : Nat) (F : Nat → Prop) (k : Dk) (s : Nm) (hst : k.steps < 1000000) (w : World) (hDk : DiskAt w F d k) :
  Calls Tryz.prog 153 #[.pointer (some ⟨d, 0, none⟩), .string s] w fun e w' => e = .returned (.int .i64 (removeK k s).1) ∧ Dp w F d (removeK k s).2 w' := by
 have hmf : ∀ (fn : Fn) (first cap : Array Value) (w : World), (Instr.makeFunc fn first cap).run Tryz.prog w = .ok (.func fn first cap) w := fun _ _ _ _ => rfl
 obtain ⟨W, hW⟩ : ∃ W, (w.alloc (.cells #[.pointer (some ⟨d, 0, none⟩)] 36)).alloc (.cells #[.string s] 9) = W := ⟨_, rfl⟩
 have hB : Below w.heap.size w W := by rw [← hW]; exact ((Below.refl _ _).alloc (Nat.le_refl _) _).alloc (by simp) _
 have b0 : W.heap[w.heap.size]? = some (.cells #[.pointer (some ⟨d, 0, none⟩)] 36 (0, 0)) := by rw [← hW]; exact alloc2_at w _ _
 have b1 : W.heap[w.heap.size + 1]? = some (.cells #[.string s] 9 (0, 0)) := by rw [← hW]; exact (by simpa using alloc_at (w.alloc (.cells #[.pointer (some ⟨d, 0, none⟩)] 36)) (.cells #[.string s] 9))
 have hDW := hDk.below hB
 have hlt := hDk.lt
 have hA : Calls Tryz.prog 48 #[.pointer (some ⟨d, 0, none⟩), .func (.func 167) #[] #[.pointer (some ⟨w.heap.size, 0, none⟩), .pointer (some ⟨w.heap.size + 1, 0, none⟩)]] W fun e w' => e = .returned (.int .i64 (removeK k s).1) ∧ Dp W F d (removeK k s).2 w' := by
  cases on : k.off with
  | true =>
   have e : removeK k s = (13, k) := by unfold removeK stepK; rw [on]; rfl
   rw [e]
   exact attempt_off d _ _ F k W hDW on
  | false =>
   refine attempt_D d _ _ F k _ _ W (enters_of Tryz.func167 (by kernel_rfl) rfl) hDW on (fun hD1 hb1 => ?_)
   have g0 := box_below b0 hb1
   have g1 := box_below b1 hb1
   generalize W.alloc (.cells #[.int .i64 0] 37) = V at *
   unfold removeK
   rcases stepK_cases k on s (fun _ => 0) (fun k _ => { k with fs := dropL k.fs s }) with ⟨en, hen, hne, e⟩ | ⟨f, hs, hlk, e⟩
   ·rw [e]
    refine (remove_bad _ _ d s en _ g0 g1 (find_bad d F k s _ hD1 en hen)).mono ?_
    rintro e w' ⟨rfl, hbe⟩
    exact ⟨gv_no hne rfl, Dp.ofBelow hD1 hbe⟩
   ·rw [e, if_neg (by simp)]
    refine (remove_go _ _ d F k on s hs f hlk hst _ hD1 g1 g0 (fun h => by have := hlt _ h; omega) (fun h => by have := hlt _ h; omega)).mono ?_
    rintro e w' (⟨h0, rfl, hDp⟩ | ⟨h0, rfl, hDp⟩)
    ·rw [if_pos h0]
     exact ⟨gv_no h0 rfl, hDp⟩
    ·rw [if_neg (by simp [h0])]
     exact ⟨Or.inl ⟨rfl, rfl⟩, hDp⟩
 have c0 := box_cell b0
 clear hDW
 obtain ⟨P, hP⟩ : ∃ P, removeK k s = P := ⟨_, rfl⟩
 rw [hP] at hA ⊢
 clear hP
 go_enter Tryz.func153, Tryz.ntmps153
 go_upto_region 1 with fail
 clear hW
 go_wp2_with (first
  | (go_at_call 48; refine hA.mono ?_; rintro e w1 ⟨rfl, hDp⟩))
 go_ret
 exact ⟨rfl, Dp.from hB hDp⟩
end Go.Proofs.YtikkieaokfailaaGreatDoor

namespace Go.Proofs.YtikkieaokfailaaGreatDoor
open Go.RowKit Go.Joins
theorem cut_bad (bd bn bz d : Nat) (s : Nm) (en : Nat) (W : World) (hd : W.heap[bd]? = some (.cells #[.pointer (some ⟨d, 0, none⟩)] 36 (0, 0))) (hn : W.heap[bn]? = some (.cells #[.string s] 9 (0, 0)))
  (hF : Calls Tryz.prog 89 #[.pointer (some ⟨d, 0, none⟩), .string s] W fun e w' => e = .panicked (gaveUp en) ∧ Below W.heap.size W w') :
  Calls Tryz.prog 168 #[.pointer (some ⟨bd, 0, none⟩), .pointer (some ⟨bn, 0, none⟩), .pointer (some ⟨bz, 0, none⟩)] W fun e w' => e = .panicked (gaveUp en) ∧ Below W.heap.size W w' := by
 have q := box_cell hn
 have q1 := box_cell hd
 clear hn hd
 go_enter Tryz.func168, Tryz.ntmps168
 go_wp2_with (first
  | (go_at_call 89; refine hF.mono ?_; rintro e w1 ⟨rfl, hb1⟩))
 exact ⟨rfl, rfl, hb1⟩
set_option maxRecDepth 100000 in
set_option maxHeartbeats 4000000 in
theorem cut_arg (bd bn bz d : Nat) (F : Nat → Prop) (k : Dk) (s : Nm) (hs : isNm s = true) (f : Fle) (hlk : look k.fs s = some f) (z : Int) (hz : ¬ (0 ≤ z ∧ z ≤ (f.b.length : Int))) (W : World) (hDk : DiskAt W F d k)
  (hn : W.heap[bn]? = some (.cells #[.string s] 9 (0, 0))) (hd : W.heap[bd]? = some (.cells #[.pointer (some ⟨d, 0, none⟩)] 36 (0, 0))) (hzb : W.heap[bz]? = some (.cells #[.int .i64 z] 3 (0, 0))) :
  Calls Tryz.prog 168 #[.pointer (some ⟨bd, 0, none⟩), .pointer (some ⟨bn, 0, none⟩), .pointer (some ⟨bz, 0, none⟩)] W fun e w' => e = .panicked (gaveUp 1) ∧ Below W.heap.size W w' := by
 have q := box_cell hn
 have q1 := box_cell hd
 obtain ⟨⟨bm, m, hD, hbm, ht, ha⟩, fd, lt, _⟩ := hDk
 have htie := ht s
 rw [hlk] at htie
 obtain ⟨⟨a, ln, cp, sf⟩, hm, h1, h2, hown, hFr⟩ := htie.some'
 dsimp only at h1 h2
 subst h1
 rw [← h2] at hz
 have hfind := find_ok d bm _ _ m s hs a _ cp _ hm W hD
 obtain ⟨A, hA⟩ : ∃ A : Option Addr, (a.map fun g => (⟨g, 0, none⟩ : Addr)) = A := ⟨_, rfl⟩
 rw [hA] at hfind
 have hlen1 := fun w => len_slice A ln cp 29 3 w Tryz.underlying29
 clear h2 hlk htie hown hA
 go_enter Tryz.func168, Tryz.ntmps168
 go_upto_region 1 with (first
  | (go_at_call 89; refine hfind.mono ?_; rintro e w1 ⟨rfl, hb1⟩))
 have hbe : Below W.heap.size W (w1.alloc (.cells #[.slice A ln cp, .int .i64 (f.safe : Int)] 106)) := hb1.alloc hb1.size _
 have hfil := alloc_at w1 (.cells #[.slice A ln cp, .int .i64 (f.safe : Int)] 106)
 obtain ⟨bf, hbf⟩ : ∃ bf, w1.heap.size = bf := ⟨_, rfl⟩
 rw [hbf] at hfil ⊢
 clear hbf hb1 hfind
 generalize w1.alloc (.cells #[.slice A ln cp, .int .i64 (f.safe : Int)] 106) = Z at *
 have f0 := cell_of_block hfil 0
 simp at f0
 have hz0 := box_cell (box_below hzb hbe)
 by_cases h0 : 0 ≤ z
 ·have h1 : ¬ z ≤ (ln : Int) := fun h => hz ⟨h0, h⟩
  clear hz
  go_wp2_with (first
   | (go_at_call 50; refine (ask_no 1 _).mono ?_; rintro e w2 ⟨rfl, rfl⟩))
  exact ⟨rfl, rfl, hbe⟩
 ·clear hz
  go_wp2_with (first
   | (go_at_call 50; refine (ask_no 1 _).mono ?_; rintro e w2 ⟨rfl, rfl⟩))
  exact ⟨rfl, rfl, hbe⟩
set_option maxRecDepth 100000 in
set_option maxHeartbeats 4000000 in
theorem cut_go (bd bn bz d : Nat) (F : Nat → Prop) (k : Dk) (on : k.off = false) (s : Nm) (hs : isNm s = true) (f : Fle) (hlk : look k.fs s = some f) (z : Nat) (hz : z ≤ f.b.length) (hst : k.steps < 1000000) (hfl : k.fs.length < 1000000) (W : World) (hDk : DiskAt W F d k)
  (hn : W.heap[bn]? = some (.cells #[.string s] 9 (0, 0))) (hd : W.heap[bd]? = some (.cells #[.pointer (some ⟨d, 0, none⟩)] 36 (0, 0))) (hzb : W.heap[bz]? = some (.cells #[.int .i64 (z : Int)] 3 (0, 0))) (hFn : ¬ F bn) (hFd : ¬ F bd) (hFz : ¬ F bz) :
  Calls Tryz.prog 168 #[.pointer (some ⟨bd, 0, none⟩), .pointer (some ⟨bn, 0, none⟩), .pointer (some ⟨bz, 0, none⟩)] W fun e w' =>
   (((passK k).1 ≠ 0 ∧ e = .panicked (gaveUp (passK k).1) ∧ Dp W F d (passK k).2 w') ∨ ((passK k).1 = 0 ∧ e = .returned (.tuple #[]) ∧ Dp W F d { (passK k).2 with fs := putL (passK k).2.fs s (cutF f z) } w')) := by
 have hsz64 := isNm_size hs
 have q := box_cell hn
 have q1 := box_cell hd
 have hgood := hDk.good
 have hroom := hgood.room
 have hused := hgood.used
 have hlenO := lenO_used k.fs s
 obtain ⟨_, hsf1, hbd⟩ := look_good hgood hlk
 obtain ⟨⟨bm, m, hD, hbm, ht, ha⟩, fd, lt, _⟩ := hDk
 have htie := ht s
 rw [hlk] at htie
 obtain ⟨⟨a, ln, cp, sf⟩, hm, h1, h2, hown, hFr⟩ := htie.some'
 dsimp only at h1 h2
 subst h1
 subst h2
 rw [hlk] at hlenO
 have hfl2 : f.b.length ≤ used k.fs := hlenO
 have hfind := find_ok d bm _ _ m s hs a _ cp _ hm W hD
 have hP := fun w' hDR => pass_R w' d bm k.fs.length k m hDR hgood on hst
 have hpfs := pass_fs k
 have hpg := good_pass hgood
 obtain ⟨P, HPe⟩ : ∃ P, Hid (passK k = P) := ⟨_, rfl⟩
 rw [HPe.out] at hP hpfs hpg ⊢
 obtain ⟨en, k2⟩ := P
 dsimp only at hP hpfs hpg ⊢
 obtain ⟨A, hA⟩ : ∃ A : Option Addr, (a.map fun g => (⟨g, 0, none⟩ : Addr)) = A := ⟨_, rfl⟩
 have hslv : slv (a, f.b.length, cp, (f.safe : Int)) = .slice A f.b.length cp := by unfold slv; rw [hA]
 rw [hslv] at hown
 obtain ⟨ln, hln⟩ : ∃ ln, f.b.length = ln := ⟨_, rfl⟩
 have HLN : Hid (f.b.length = ln) := hln
 rw [hln] at hfind hown hsf1 hfl2 hm hz
 have hRw : Rd W A ln cp f.b := Rd.ofRow hown hbd
 rw [hA] at hfind
 clear hln HPe hslv
 have hlen1 := fun w => len_slice A ln cp 29 3 w Tryz.underlying29
 have hz0 : (0 : Int) ≤ (z : Int) := by omega
 have hz1 : (z : Int) ≤ (ln : Int) := by omega
 go_enter Tryz.func168, Tryz.ntmps168
 go_upto_region 1 with (first
  | (go_at_call 89; refine hfind.mono ?_; rintro e w1 ⟨rfl, hb1⟩))
 have hbe : Below W.heap.size W (w1.alloc (.cells #[.slice A ln cp, .int .i64 (f.safe : Int)] 106)) := hb1.alloc hb1.size _
 have hfil := alloc_at w1 (.cells #[.slice A ln cp, .int .i64 (f.safe : Int)] 106)
 have hws := hb1.size
 obtain ⟨bf, hbf⟩ : ∃ bf, w1.heap.size = bf := ⟨_, rfl⟩
 rw [hbf] at hfil hws ⊢
 clear hbf hb1 hfind
 generalize w1.alloc (.cells #[.slice A ln cp, .int .i64 (f.safe : Int)] 106) = Z at *
 have hDZ := hD.below hbe
 have htZ : ∀ t, Tie Z F (m t) (look k.fs t) := fun t => (ht t).keep (S := fun _ => False) (Keep.ofBelow hbe) (fun _ _ _ _ h => h) (fun _ h => h)
 have ltZ : ∀ i, F i → i < Z.heap.size := fun i hi => Nat.lt_of_lt_of_le (lt i hi) hbe.size
 have hdZ := box_below hd hbe
 have hnZ := box_below hn hbe
 have hzZ := box_below hzb hbe
 have p1 := box_cell hdZ
 have pz := box_cell hzZ
 have f0 := cell_of_block hfil 0
 simp at f0
 have hdl := hD.lt
 have hbl := hD.map.lt
 rcases gv_split (hP Z hDZ) with ⟨h0, hc'⟩ | ⟨h0, hc'⟩
 ·go_upto_region 3 with (first
   | (go_at_call 50; refine (ask_ok 1 _).mono ?_; rintro e w2 ⟨rfl, hw2⟩; replace hw2 := hw2.symm; subst hw2)
   | (go_at_call 53; refine hc'.mono ?_; rintro e w3 ⟨rfl, hD3, hk3⟩))
  obtain ⟨x1, x2, x3⟩ := DiskAt.cells hbm htZ ha fd ltZ hDZ.blk hk3 hD3 hpfs hpg
  have hd3 := box_keep hdZ x3 hFd
  have hn3 := box_keep hnZ x3 hFn
  have hz3 := box_keep hzZ x3 hFz
  have hfil3 := box_keep hfil hk3 (show ¬ bf = d by omega)
  have hR3 : Rd w3 A ln cp f.b := by
   have h := (x2 s)
   rw [hpfs, hlk, hm] at h
   have ho := h.2.2.1
   rw [HLN.out] at ho
   have e : slv (a, ln, cp, (f.safe : Int)) = .slice A ln cp := by unfold slv; rw [hA]
   rw [e] at ho
   exact Rd.ofRow ho hbd
  refine wp_region_lx (fun w' => w'.heap[bd]? = some (.cells #[.pointer (some ⟨d, 0, none⟩)] 36 (0, 0)) ∧ w'.heap[bn]? = some (.cells #[.string s] 9 (0, 0)) ∧ w'.heap[bz]? = some (.cells #[.int .i64 (z : Int)] 3 (0, 0)) ∧ w'.heap[bf]? = some (.cells #[.slice A ln cp, .int .i64 (f.safe : Int)] 106 (0, 0))) [] 6 (by kernel_rfl) (by kernel_rfl) ?_
  have HS : w3.drew.heap[bd]? = some (.cells #[.pointer (some ⟨d, 0, none⟩)] 36 (0, 0)) ∧ w3.drew.heap[bn]? = some (.cells #[.string s] 9 (0, 0)) ∧ w3.drew.heap[bz]? = some (.cells #[.int .i64 (z : Int)] 3 (0, 0)) ∧ w3.drew.heap[bf]? = some (.cells #[.slice A ln cp, .int .i64 (f.safe : Int)] 106 (0, 0)) := ⟨hd3, hn3, hz3, hfil3⟩
  have hbX : Below w3.heap.size w3 w3.drew := (Below.refl _ _).drew
  have hRX := hR3.carry (Nat.le_refl _) hbX
  have hDX := hD3.below hbX
  clear hd3 hn3 hz3 hfil3 hR3
  generalize w3.drew = X at *
  refine lx_r 0 (.pointer (some ⟨d, 0, none⟩)) HS ?_ (hv := fun w' hS => by have q := box_cell hS.1; first | (go_simp; rfl) | go_simp); simp only [lxa, lxb, lxc]
  refine lx_r 1 (.string s) HS ?_ (hv := fun w' hS => by have q := box_cell hS.2.1; first | (go_simp; rfl) | go_simp); simp only [lxa, lxb, lxc]
  refine lx_r 2 (.agg #[.slice A ln cp, .int .i64 (f.safe : Int)]) HS ?_ (hv := fun w' hS => by have q1 : w'.cell? ⟨bf, 0, none⟩ = some (.slice A ln cp) := (by simp [World.cell?, hS.2.2.2]); have q2 : w'.cell? ⟨bf, 1, none⟩ = some (.int .i64 (f.safe : Int)) := (by simp [World.cell?, hS.2.2.2]); first | (go_simp; rfl) | go_simp); simp only [lxa, lxb, lxc]
  refine lx_r 3 (.int .i64 (z : Int)) HS ?_ (hv := fun w' hS => by have q := box_cell hS.2.2.1; first | (go_simp; rfl) | go_simp); simp only [lxa, lxb, lxc]
  refine lx_one 4 (by kernel_rfl) (stepT_call 70 ?a4 rfl rfl rfl ?r4 ?_)
  case r4 => first | (go_simp; rfl) | go_simp
  refine (fcut_any A ln cp f.b f.safe z X hRX hz (by omega)).mono ?_
  rintro e w5 ⟨a5, cp5, rfl, hown5, hb5⟩
  have HS5 : w5.heap[bd]? = some (.cells #[.pointer (some ⟨d, 0, none⟩)] 36 (0, 0)) ∧ w5.heap[bn]? = some (.cells #[.string s] 9 (0, 0)) ∧ w5.heap[bz]? = some (.cells #[.int .i64 (z : Int)] 3 (0, 0)) ∧ w5.heap[bf]? = some (.cells #[.slice A ln cp, .int .i64 (f.safe : Int)] 106 (0, 0)) := ⟨box_below HS.1 hb5, box_below HS.2.1 hb5, box_below HS.2.2.1 hb5, box_below HS.2.2.2 hb5⟩
  refine ⟨_, rfl, fun _ => HS5, ?_⟩
  simp only [lxa, lxb, lxc]
  have hoL : ((m s).getD fv0).2.1 = ln := by rw [hm]; rfl
  have hD5 := hDX.below hb5
  have hPt := put_any d bm k.fs.length (rawK k2) m s (by omega) hfl a5 z cp5 ((min f.safe z : Nat) : Int) w5 hD5 (by simp [rawK]) (by simp [rawK, hpfs]; omega) (by omega) (by rw [hoL]; omega)
  rw [hoL] at hPt
  refine lx_one 5 (by kernel_rfl) (stepT_call 52 ?a5 rfl rfl rfl ?r5 ?_)
  case r5 => first | (go_simp; rfl) | go_simp
  refine hPt.mono ?_
  rintro e w7 ⟨rfl, hD7, hk7⟩
  have hnotd : ¬ (bd = d ∨ bd = bm) := fun h => hFd (by rcases h with rfl | rfl; exact fd; exact hbm)
  have hnotn : ¬ (bn = d ∨ bn = bm) := fun h => hFn (by rcases h with rfl | rfl; exact fd; exact hbm)
  have hnotz : ¬ (bz = d ∨ bz = bm) := fun h => hFz (by rcases h with rfl | rfl; exact fd; exact hbm)
  refine ⟨_, rfl, fun _ => ⟨box_keep HS5.1 hk7 hnotd, box_keep HS5.2.1 hk7 hnotn, box_keep HS5.2.2.1 hk7 hnotz, box_keep HS5.2.2.2 hk7 (by omega)⟩, ?_⟩
  simp only [lxa, lxb, lxc]
  refine lx_nil (by kernel_rfl) ?_
  go_wp2
  go_end0
  refine Or.inr ⟨h0, rfl, ?_⟩
  have hcl : (cutF f z).b.length = z := by show (f.b.take z).length = z; rw [List.length_take, HLN.out]; omega
  have hup := used_put k.fs hgood.rise s (cutF f z)
  rw [hlk, hcl] at hup
  have hle : lenO (some f) = ln := HLN.out
  rw [hle] at hup
  have hraw : rawK { k2 with fs := putL k2.fs s (cutF f z) } = { rawK k2 with used := (rawK k2).used + ((z : Int) - (ln : Int)) } := by
   unfold rawK
   congr 1
   show ((used (putL k2.fs s (cutF f z)) : Nat) : Int) = ((used k2.fs : Nat) : Int) + ((z : Int) - (ln : Int))
   rw [hpfs]
   omega
  rw [← hraw] at hD7
  have hkg : ({ k2 with fs := putL k2.fs s (cutF f z) } : Dk).Good := good_put hpg hs (by rw [hcl]; exact Nat.min_le_right _ _) (hbd.take z) (by rw [hpfs]; have h := hpg.used; rw [hpfs] at h; omega)
  refine Dp.from hbe (Dp.next x3 (fun i hi => Or.inl hi) ?_)
  have hbl3 : FMap w3 bm k2.fs.length m := by rw [hpfs]; exact hD3.map
  have hb35 : Below w3.heap.size w3 w5 := hbX.trans (hb5.mono hbX.size)
  refine DiskAt.put (k := k2) (S := fun _ => False) (c := (a5, z, cp5, ((min f.safe z : Nat) : Int))) (f := cutF f z) hbm x2 ha fd x1.lt hD3.blk hbl3 (Keep.ofBelow hb35) (fun i hi => hi.elim) hk7 hD7 rfl (by rw [hpfs]; exact hgood.rise) hkg rfl hcl.symm ?_ (fun g hg => ?_)
  ·show w7.ownsRow 0 5 1 (slv (a5, z, cp5, ((min f.safe z : Nat) : Int))) (cutF f z).b.length (bc (f.b.take z))
   rw [hcl]
   refine own_weak (own_keep hown5 hk7 (fun g hg e => ?_)) (Nat.zero_le _)
   have h1 := (hown5.lt g hg).1
   have h2 := hDX.lt
   have h3 := hDX.map.lt
   omega
  ·have hg' : a5 = some g := hg
   have h1 := hown5.lt g (by rw [hg']; rfl)
   have hgn : w3.heap.size ≤ g := by have := hbX.size; omega
   exact ⟨Or.inr ⟨hgn, by have := hk7.size; omega⟩, fun t e _ he => row_new x2 x1.lt hgn t e he⟩
 ·clear hP
  go_wp2_with (first
   | (go_at_call 50; refine (ask_ok 1 _).mono ?_; rintro e w2 ⟨rfl, hw2⟩; replace hw2 := hw2.symm; subst hw2)
   | (go_at_call 53; refine hc'.mono ?_; rintro e w3 ⟨rfl, hD3, hk3⟩))
  obtain ⟨x1, _, x3⟩ := DiskAt.cells hbm htZ ha fd ltZ hDZ.blk hk3 hD3 hpfs hpg
  exact ⟨rfl, Or.inl ⟨h0, rfl, Dp.from hbe ⟨F, x1, x3, fun _ h => Or.inl h⟩⟩⟩
end Go.Proofs.YtikkieaokfailaaGreatDoor

namespace Go.Proofs.YtikkieaokfailaaGreatDoor
open Go.RowKit Go.Joins
set_option maxHeartbeats 1000000 in
theorem cut_any (d : Nat) (F : Nat → Prop) (k : Dk) (s : Nm) (z : Int) (hst : k.steps < 1000000) (hfl : k.fs.length < 1000000) (w : World) (hDk : DiskAt w F d k) :
  Calls Tryz.prog 156 #[.pointer (some ⟨d, 0, none⟩), .string s, .int .i64 z] w fun e w' => e = .returned (.int .i64 (cutK k s z).1) ∧ Dp w F d (cutK k s z).2 w' := by
 have hmf : ∀ (fn : Fn) (first cap : Array Value) (w : World), (Instr.makeFunc fn first cap).run Tryz.prog w = .ok (.func fn first cap) w := fun _ _ _ _ => rfl
 obtain ⟨W, hW⟩ : ∃ W, ((w.alloc (.cells #[.pointer (some ⟨d, 0, none⟩)] 36)).alloc (.cells #[.string s] 9)).alloc (.cells #[.int .i64 z] 3) = W := ⟨_, rfl⟩
 have hB : Below w.heap.size w W := by rw [← hW]; exact (((Below.refl _ _).alloc (Nat.le_refl _) _).alloc (by simp) _).alloc (by simp; omega) _
 have b0 : W.heap[w.heap.size]? = some (.cells #[.pointer (some ⟨d, 0, none⟩)] 36 (0, 0)) := by rw [← hW]; exact alloc3_at w _ _ _
 have b1 : W.heap[w.heap.size + 1]? = some (.cells #[.string s] 9 (0, 0)) := by rw [← hW]; exact (by simpa using alloc2_at (w.alloc (.cells #[.pointer (some ⟨d, 0, none⟩)] 36)) (.cells #[.string s] 9) (.cells #[.int .i64 z] 3))
 have b2 : W.heap[w.heap.size + 1 + 1]? = some (.cells #[.int .i64 z] 3 (0, 0)) := by rw [← hW]; exact (by simpa using alloc_at ((w.alloc (.cells #[.pointer (some ⟨d, 0, none⟩)] 36)).alloc (.cells #[.string s] 9)) (.cells #[.int .i64 z] 3))
 have hDW := hDk.below hB
 have hlt := hDk.lt
 have hA : Calls Tryz.prog 48 #[.pointer (some ⟨d, 0, none⟩), .func (.func 168) #[] #[.pointer (some ⟨w.heap.size, 0, none⟩), .pointer (some ⟨w.heap.size + 1, 0, none⟩), .pointer (some ⟨w.heap.size + 1 + 1, 0, none⟩)]] W fun e w' => e = .returned (.int .i64 (cutK k s z).1) ∧ Dp W F d (cutK k s z).2 w' := by
  cases on : k.off with
  | true =>
   have e : cutK k s z = (13, k) := by unfold cutK stepK; rw [on]; rfl
   rw [e]
   exact attempt_off d _ _ F k W hDW on
  | false =>
   refine attempt_D d _ _ F k _ _ W (enters_of Tryz.func168 (by kernel_rfl) rfl) hDW on (fun hD1 hb1 => ?_)
   have g0 := box_below b0 hb1
   have g1 := box_below b1 hb1
   have g2 := box_below b2 hb1
   generalize W.alloc (.cells #[.int .i64 0] 37) = V at *
   unfold cutK
   rcases stepK_cases k on s (fun f => if 0 ≤ z ∧ z ≤ f.b.length then 0 else 1) (fun k f => { k with fs := putL k.fs s (cutF f z.toNat) }) with ⟨en, hen, hne, e⟩ | ⟨f, hs, hlk, e⟩
   ·rw [e]
    refine (cut_bad _ _ _ d s en _ g0 g1 (find_bad d F k s _ hD1 en hen)).mono ?_
    rintro e w' ⟨rfl, hbe⟩
    exact ⟨gv_no hne rfl, Dp.ofBelow hD1 hbe⟩
   ·rw [e]
    by_cases hz : 0 ≤ z ∧ z ≤ (f.b.length : Int)
    ·obtain ⟨z', rfl⟩ := Int.eq_ofNat_of_zero_le hz.1
     rw [if_pos hz, if_neg (by simp), Int.toNat_natCast]
     refine (cut_go _ _ _ d F k on s hs f hlk z' (by omega) hst hfl _ hD1 g1 g0 g2 (fun h => by have := hlt _ h; omega) (fun h => by have := hlt _ h; omega) (fun h => by have := hlt _ h; omega)).mono ?_
     rintro e w' (⟨h0, rfl, hDp⟩ | ⟨h0, rfl, hDp⟩)
     ·rw [if_pos h0]
      exact ⟨gv_no h0 rfl, hDp⟩
     ·rw [if_neg (by simp [h0])]
      exact ⟨Or.inl ⟨rfl, rfl⟩, hDp⟩
    ·rw [if_neg hz, if_pos (by simp)]
     refine (cut_arg _ _ _ d F k s hs f hlk z hz _ hD1 g1 g0 g2).mono ?_
     rintro e w' ⟨rfl, hbe⟩
     exact ⟨gv_no (by simp) rfl, Dp.ofBelow hD1 hbe⟩
 have c0 := box_cell b0
 clear hDW
 obtain ⟨P, hP⟩ : ∃ P, cutK k s z = P := ⟨_, rfl⟩
 rw [hP] at hA ⊢
 clear hP
 go_enter Tryz.func156, Tryz.ntmps156
 go_upto_region 1 with fail
 clear hW
 go_wp2_with (first
  | (go_at_call 48; refine hA.mono ?_; rintro e w1 ⟨rfl, hDp⟩))
 go_ret
 exact ⟨rfl, Dp.from hB hDp⟩
end Go.Proofs.YtikkieaokfailaaGreatDoor

namespace Go.Proofs.YtikkieaokfailaaGreatDoor
open Go.RowKit Go.Joins
theorem ren_name (bd bn bt : Nat) (t : Nm) (hs : isNm t = false) (W : World) (hn : W.heap[bt]? = some (.cells #[.string t] 9 (0, 0))) :
  Calls Tryz.prog 146 #[.pointer (some ⟨bt, 0, none⟩), .pointer (some ⟨bd, 0, none⟩), .pointer (some ⟨bn, 0, none⟩)] W fun e w' => e = .panicked (gaveUp 4) ∧ Below W.heap.size W w' := by
 have hN := fun w => isName_any t w
 rw [hs] at hN
 have q := box_cell hn
 clear hn
 go_enter Tryz.func146, Tryz.ntmps146
 go_wp2_with (first
  | (go_at_call 51; refine (hN _).mono ?_; rintro e w1 ⟨rfl, hb1⟩)
  | (go_at_call 50; refine (ask_no 4 _).mono ?_; rintro e w2 ⟨rfl, rfl⟩))
 exact ⟨rfl, rfl, hb1⟩
theorem ren_bad (bd bn bt d : Nat) (s t : Nm) (ht : isNm t = true) (en : Nat) (W : World) (hd : W.heap[bd]? = some (.cells #[.pointer (some ⟨d, 0, none⟩)] 36 (0, 0))) (hn : W.heap[bn]? = some (.cells #[.string s] 9 (0, 0))) (htb : W.heap[bt]? = some (.cells #[.string t] 9 (0, 0)))
  (hF : ∀ V, Below W.heap.size W V → Calls Tryz.prog 89 #[.pointer (some ⟨d, 0, none⟩), .string s] V fun e w' => e = .panicked (gaveUp en) ∧ Below V.heap.size V w') :
  Calls Tryz.prog 146 #[.pointer (some ⟨bt, 0, none⟩), .pointer (some ⟨bd, 0, none⟩), .pointer (some ⟨bn, 0, none⟩)] W fun e w' => e = .panicked (gaveUp en) ∧ Below W.heap.size W w' := by
 have hN := fun w => isName_any t w
 rw [ht] at hN
 have q := box_cell htb
 go_enter Tryz.func146, Tryz.ntmps146
 go_upto_region 1 with (first
  | (go_at_call 51; refine (hN _).mono ?_; rintro e w1 ⟨rfl, hb1⟩)
  | (go_at_call 50; refine (ask_ok 4 _).mono ?_; rintro e w2 ⟨rfl, hw2⟩; replace hw2 := hw2.symm; subst hw2))
 have q1 := box_cell (box_below hd hb1)
 have q2 := box_cell (box_below hn hb1)
 have hF1 := hF _ hb1
 clear hF hd hn htb
 go_wp2_with (first
  | (go_at_call 89; refine hF1.mono ?_; rintro e w3 ⟨rfl, hb3⟩))
 exact ⟨rfl, rfl, hb1.trans (hb3.mono hb1.size)⟩
set_option maxRecDepth 100000 in
set_option maxHeartbeats 4000000 in
theorem ren_go (bd bn bt d : Nat) (F : Nat → Prop) (k : Dk) (on : k.off = false) (s t : Nm) (hs : isNm s = true) (htn : isNm t = true) (f : Fle) (hlk : look k.fs s = some f) (hst : k.steps < 1000000) (hfl : k.fs.length < 1000000) (W : World) (hDk : DiskAt W F d k)
  (hn : W.heap[bn]? = some (.cells #[.string s] 9 (0, 0))) (htb : W.heap[bt]? = some (.cells #[.string t] 9 (0, 0))) (hd : W.heap[bd]? = some (.cells #[.pointer (some ⟨d, 0, none⟩)] 36 (0, 0))) (hFn : ¬ F bn) (hFt : ¬ F bt) (hFd : ¬ F bd) :
  Calls Tryz.prog 146 #[.pointer (some ⟨bt, 0, none⟩), .pointer (some ⟨bd, 0, none⟩), .pointer (some ⟨bn, 0, none⟩)] W fun e w' =>
   (((passK k).1 ≠ 0 ∧ e = .panicked (gaveUp (passK k).1) ∧ Dp W F d (passK k).2 w') ∨ ((passK k).1 = 0 ∧ e = .returned (.tuple #[]) ∧ Dp W F d { (passK k).2 with fs := putL (dropL (passK k).2.fs s) t f } w')) := by
 have hsz64 := isNm_size hs
 have htz64 := isNm_size htn
 have hmax : s.size ≤ maxLen := by unfold maxLen; omega
 have hN := fun w => isName_any t w
 rw [htn] at hN
 have q := box_cell htb
 have hgood := hDk.good
 have hroom := hgood.room
 have hused := hgood.used
 have hlenO := lenO_used k.fs s
 obtain ⟨_, hsf1, hbd⟩ := look_good hgood hlk
 obtain ⟨⟨bm, m, hD, hbm, ht, ha⟩, fd, lt, _⟩ := hDk
 have htie := ht s
 rw [hlk] at htie
 obtain ⟨⟨a, ln, cp, sf⟩, hm, h1, h2, hown, hFr⟩ := htie.some'
 dsimp only at h1 h2
 subst h1
 subst h2
 rw [hlk] at hlenO
 have hfl2 : f.b.length ≤ used k.fs := hlenO
 have hfind := fun V (hV : DR V d bm k.fs.length (rawK k) m) => find_ok d bm _ _ m s hs a _ cp _ hm V hV
 have hP := fun w' hDR => pass_R w' d bm k.fs.length k m hDR hgood on hst
 have hpfs := pass_fs k
 have hpg := good_pass hgood
 obtain ⟨P, HPe⟩ : ∃ P, Hid (passK k = P) := ⟨_, rfl⟩
 rw [HPe.out] at hP hpfs hpg ⊢
 obtain ⟨en, k2⟩ := P
 dsimp only at hP hpfs hpg ⊢
 obtain ⟨A, hA⟩ : ∃ A : Option Addr, (a.map fun g => (⟨g, 0, none⟩ : Addr)) = A := ⟨_, rfl⟩
 obtain ⟨ln, hln⟩ : ∃ ln, f.b.length = ln := ⟨_, rfl⟩
 have HLN : Hid (f.b.length = ln) := hln
 rw [hln] at hfind hown hsf1 hfl2 hm
 rw [hA] at hfind
 clear hln HPe
 go_enter Tryz.func146, Tryz.ntmps146
 go_upto_region 1 with (first
  | (go_at_call 51; refine (hN _).mono ?_; rintro e w0 ⟨rfl, hb0⟩)
  | (go_at_call 50; refine (ask_ok 4 _).mono ?_; rintro e w2 ⟨rfl, hw2⟩; replace hw2 := hw2.symm; subst hw2))
 have p0 := box_cell (box_below hd hb0)
 have p2 := box_cell (box_below hn hb0)
 have hf0 := hfind _ (hD.below hb0)
 clear hfind
 go_upto_region 2 with (first
  | (go_at_call 89; refine hf0.mono ?_; rintro e w1 ⟨rfl, hb1⟩))
 have hb01 : Below W.heap.size W w1 := hb0.trans (hb1.mono hb0.size)
 have hbe : Below W.heap.size W (w1.alloc (.cells #[.slice A ln cp, .int .i64 (f.safe : Int)] 106)) := hb01.alloc hb01.size _
 have hfil := alloc_at w1 (.cells #[.slice A ln cp, .int .i64 (f.safe : Int)] 106)
 have hws := hb01.size
 obtain ⟨bf, hbf⟩ : ∃ bf, w1.heap.size = bf := ⟨_, rfl⟩
 rw [hbf] at hfil hws ⊢
 clear hbf hb1 hb01 hf0 hb0 p0 p2
 generalize w1.alloc (.cells #[.slice A ln cp, .int .i64 (f.safe : Int)] 106) = Z at *
 have hDZ := hD.below hbe
 have htZ : ∀ t, Tie Z F (m t) (look k.fs t) := fun t => (ht t).keep (S := fun _ => False) (Keep.ofBelow hbe) (fun _ _ _ _ h => h) (fun _ h => h)
 have ltZ : ∀ i, F i → i < Z.heap.size := fun i hi => Nat.lt_of_lt_of_le (lt i hi) hbe.size
 have hdZ := box_below hd hbe
 have hnZ := box_below hn hbe
 have htbZ := box_below htb hbe
 have p1 := box_cell hdZ
 have hdl := hD.lt
 have hbl := hD.map.lt
 rcases gv_split (hP Z hDZ) with ⟨h0, hc'⟩ | ⟨h0, hc'⟩
 ·go_upto_region 3 with (first
   | (go_at_call 53; refine hc'.mono ?_; rintro e w3 ⟨rfl, hD3, hk3⟩))
  obtain ⟨x1, x2, x3⟩ := DiskAt.cells hbm htZ ha fd ltZ hDZ.blk hk3 hD3 hpfs hpg
  have hd3 := box_keep hdZ x3 hFd
  have hn3 := box_keep hnZ x3 hFn
  have ht3 := box_keep htbZ x3 hFt
  have hfil3 := box_keep hfil hk3 (show ¬ bf = d by omega)
  have cd3 := box_cell hd3
  have cn3 := box_cell hn3
  have hoL : ((m s).getD fv0).2.1 = ln := by rw [hm]; rfl
  have hDr := drop_any d bm k.fs.length (rawK k2) m s hmax w3 hD3 (by simp [rawK]) (by simp [rawK, hpfs]; omega) (by rw [hoL]; omega)
  rw [hoL] at hDr
  have hbl3 : FMap w3 bm k2.fs.length m := by rw [hpfs]; exact hD3.map
  have own3 : w3.ownsRow 0 5 1 (slv (a, ln, cp, (f.safe : Int))) ln (bc f.b) := by
   have := (x2 s)
   rw [hpfs, hlk, hm] at this
   have h := this.2.2.1
   rw [HLN.out] at h
   exact h
  have hrow := fun g (hg : (a, ln, cp, (f.safe : Int)).1 = some g) => row_own x2 ha (s := s) hm hg
  have hblk3 : ∀ g, a = some g → ∃ cur, w3.heap[g]? = some (.cells cur 5 (0, 0)) := fun g hg => by
   have h3 := x2 s
   rw [hm] at h3
   exact h3.blk hg
  clear hoL hc' hP
  go_upto_region 4 with (first
   | (go_at_call 147; refine hDr.mono ?_; rintro e w7 ⟨rfl, hD7, hk7⟩))
  have hup := used_drop k.fs hgood.rise s
  rw [hlk] at hup
  have hle : lenO (some f) = ln := HLN.out
  rw [hle] at hup
  have hraw : rawK { k2 with fs := dropL k2.fs s } = { rawK k2 with used := (rawK k2).used - (ln : Int) } := by
   unfold rawK
   congr 1
   show ((used (dropL k2.fs s) : Nat) : Int) = ((used k2.fs : Nat) : Int) - (ln : Int)
   rw [hpfs]
   omega
  rw [← hraw] at hD7
  have hkg7 := good_drop hpg s
  obtain ⟨y1, y2, y3, y4⟩ := DiskAt.dropped (k := k2) (k1 := { k2 with fs := dropL k2.fs s }) (s := s) hbm x2 ha fd x1.lt hD3.blk hbl3 hk7 hD7 rfl hkg7
  have hroom2 := hkg7.room
  have hused2 := hkg7.used
  obtain ⟨k3, hk3e⟩ : ∃ k3 : Dk, ({ k2 with fs := dropL k2.fs s } : Dk) = k3 := ⟨_, rfl⟩
  have H3 : Hid (({ k2 with fs := dropL k2.fs s } : Dk) = k3) := hk3e
  have hfs3 : k3.fs = dropL k2.fs s := by rw [← hk3e]
  have hmk : ∀ l, ({ k2 with fs := l } : Dk) = { k3 with fs := l } := fun l => by rw [← hk3e]
  rw [hk3e] at hD7 y1 y2 hkg7 hroom2 hused2
  have hlen2 : k3.fs.length ≤ k.fs.length := by rw [hfs3, hpfs]; exact len_drop _ _
  have hmt := hD7.map.tight (k3.fs.map Prod.fst) (rise_nodup hkg7.rise) (fun u => by rw [(y2 u).isSome, look_isSome])
  rw [List.length_map] at hmt
  have hD7' : DR w7 d bm k3.fs.length (rawK k3) (mputF m s none) := ⟨hD7.blk, hmt⟩
  have ld7 := box_cell (box_keep hd3 y4 hFd)
  have lt7 := box_cell (box_keep ht3 y4 hFt)
  have hfil7 := box_keep hfil3 hk7 (show ¬ (bf = d ∨ bf = bm) by omega)
  have f1 : w7.cell? ⟨bf, 0, none⟩ = some (.slice A ln cp) := (by simp [World.cell?, hfil7])
  have f2 : w7.cell? ⟨bf, 1, none⟩ = some (.int .i64 (f.safe : Int)) := (by simp [World.cell?, hfil7])
  have hlT := (y2 t).len
  have hlT2 := lenO_used k3.fs t
  have hPt := put_any d bm k3.fs.length (rawK k3) (mputF m s none) t (by omega) (by omega) a ln cp (f.safe : Int) w7 hD7' (by simp [rawK]) (by simp [rawK]; omega) (by omega) (by rw [hlT]; omega)
  rw [hlT, hA] at hPt
  clear hup hraw hlenO hmk hDr hk3e hfs3 hlT hfil7 hle
  go_wp2_with (first
   | (go_at_call 52; refine hPt.mono ?_; rintro e w8 ⟨rfl, hD8, hk8⟩))
  go_end0
  refine Or.inr ⟨h0, rfl, ?_⟩
  have hfs3 : k3.fs = dropL k2.fs s := by rw [← H3.out]
  have hmk : ({ k2 with fs := putL (dropL k2.fs s) t f } : Dk) = { k3 with fs := putL k3.fs t f } := by rw [← H3.out]
  rw [hmk]
  have hup := used_put k3.fs hkg7.rise t f
  rw [HLN.out] at hup
  have hraw : rawK { k3 with fs := putL k3.fs t f } = { rawK k3 with used := (rawK k3).used + ((ln : Int) - (lenO (look k3.fs t) : Int)) } := by
   unfold rawK
   congr 1
   show ((used (putL k3.fs t f) : Nat) : Int) = ((used k3.fs : Nat) : Int) + ((ln : Int) - (lenO (look k3.fs t) : Int))
   omega
  rw [← hraw] at hD8
  have hdu := used_drop k.fs hgood.rise s
  rw [hlk] at hdu
  have hle : lenO (some f) = ln := HLN.out
  rw [hle, ← hpfs, ← hfs3] at hdu
  have hrm : k3.room = k2.room := by rw [← H3.out]
  have hpu := hpg.used
  have hkg : ({ k3 with fs := putL k3.fs t f } : Dk).Good := good_put hkg7 htn (by rw [HLN.out]; exact hsf1) hbd (by omega)
  refine Dp.from hbe (Dp.next x3 (fun i hi => Or.inl hi) (Dp.next y4 (fun i hi => Or.inl hi) ?_))
  have own7 : w7.ownsRow 0 5 1 (slv (a, ln, cp, (f.safe : Int))) ln (bc f.b) := own_keep own3 hk7 (fun g hg e => by
   rw [slv_own] at hg
   obtain ⟨cur, h4⟩ := hblk3 g hg
   rcases e with rfl | rfl
   ·rw [hD3.blk] at h4; cases h4
   ·exact hD3.map.notCells h4 rfl)
  refine DiskAt.put (k := k3) (S := fun _ => False) (c := (a, ln, cp, (f.safe : Int))) (f := f) hbm y2 y3 fd y1.lt hD7.blk hmt (Keep.refl _ _) (fun i hi => hi.elim) hk8 hD8 rfl hkg7.rise hkg rfl HLN.out.symm ?_ (fun g hg => ?_)
  ·show w8.ownsRow 0 5 1 (slv (a, ln, cp, (f.safe : Int))) f.b.length (bc f.b)
   rw [HLN.out]
   refine own_keep own7 hk8 (fun g hg e => ?_)
   rw [slv_own] at hg
   obtain ⟨cur, h4⟩ := hblk3 g hg
   rcases e with rfl | rfl
   ·rw [hD3.blk] at h4; cases h4
   ·exact hD3.map.notCells h4 rfl
  ·refine ⟨Or.inl (hrow g hg).1, fun u e hu he => ?_⟩
   by_cases hus : u = s
   ·rw [hus, mputF_same] at he; cases he
   ·rw [mputF_other _ _ hus] at he
    exact (hrow g hg).2 u e hus he
 ·clear hP
  go_wp2_with (first
   | (go_at_call 53; refine hc'.mono ?_; rintro e w3 ⟨rfl, hD3, hk3⟩))
  obtain ⟨x1, _, x3⟩ := DiskAt.cells hbm htZ ha fd ltZ hDZ.blk hk3 hD3 hpfs hpg
  exact ⟨rfl, Or.inl ⟨h0, rfl, Dp.from hbe ⟨F, x1, x3, fun _ h => Or.inl h⟩⟩⟩
set_option maxHeartbeats 1000000 in
theorem rename_any (d : Nat) (F : Nat → Prop) (k : Dk) (s t : Nm) (hst : k.steps < 1000000) (hfl : k.fs.length < 1000000) (w : World) (hDk : DiskAt w F d k) :
  Calls Tryz.prog 119 #[.pointer (some ⟨d, 0, none⟩), .string s, .string t] w fun e w' => e = .returned (.int .i64 (renameK k s t).1) ∧ Dp w F d (renameK k s t).2 w' := by
 have hmf : ∀ (fn : Fn) (first cap : Array Value) (w : World), (Instr.makeFunc fn first cap).run Tryz.prog w = .ok (.func fn first cap) w := fun _ _ _ _ => rfl
 obtain ⟨W, hW⟩ : ∃ W, ((w.alloc (.cells #[.pointer (some ⟨d, 0, none⟩)] 36)).alloc (.cells #[.string s] 9)).alloc (.cells #[.string t] 9) = W := ⟨_, rfl⟩
 have hB : Below w.heap.size w W := by rw [← hW]; exact (((Below.refl _ _).alloc (Nat.le_refl _) _).alloc (by simp) _).alloc (by simp; omega) _
 have b0 : W.heap[w.heap.size]? = some (.cells #[.pointer (some ⟨d, 0, none⟩)] 36 (0, 0)) := by rw [← hW]; exact alloc3_at w _ _ _
 have b1 : W.heap[w.heap.size + 1]? = some (.cells #[.string s] 9 (0, 0)) := by rw [← hW]; exact (by simpa using alloc2_at (w.alloc (.cells #[.pointer (some ⟨d, 0, none⟩)] 36)) (.cells #[.string s] 9) (.cells #[.string t] 9))
 have b2 : W.heap[w.heap.size + 1 + 1]? = some (.cells #[.string t] 9 (0, 0)) := by rw [← hW]; exact (by simpa using alloc_at ((w.alloc (.cells #[.pointer (some ⟨d, 0, none⟩)] 36)).alloc (.cells #[.string s] 9)) (.cells #[.string t] 9))
 have hDW := hDk.below hB
 have hlt := hDk.lt
 have hA : Calls Tryz.prog 48 #[.pointer (some ⟨d, 0, none⟩), .func (.func 146) #[] #[.pointer (some ⟨w.heap.size + 1 + 1, 0, none⟩), .pointer (some ⟨w.heap.size, 0, none⟩), .pointer (some ⟨w.heap.size + 1, 0, none⟩)]] W fun e w' => e = .returned (.int .i64 (renameK k s t).1) ∧ Dp W F d (renameK k s t).2 w' := by
  cases on : k.off with
  | true =>
   have e : renameK k s t = (13, k) := by unfold renameK; rw [on]; rfl
   rw [e]
   exact attempt_off d _ _ F k W hDW on
  | false =>
   refine attempt_D d _ _ F k _ _ W (enters_of Tryz.func146 (by kernel_rfl) rfl) hDW on (fun hD1 hb1 => ?_)
   have g0 := box_below b0 hb1
   have g1 := box_below b1 hb1
   have g2 := box_below b2 hb1
   generalize W.alloc (.cells #[.int .i64 0] 37) = V at *
   unfold renameK
   rw [if_neg (by rw [on]; decide)]
   by_cases h1 : isNm t = false
   ·rw [if_pos h1]
    refine (ren_name _ _ _ t h1 _ g2).mono ?_
    rintro e w' ⟨rfl, hbe⟩
    exact ⟨gv_no (by simp) rfl, Dp.ofBelow hD1 hbe⟩
   ·have h1' : isNm t = true := by simpa using h1
    rw [if_neg h1]
    rcases stepK_cases k on s (fun _ => 0) (fun k f => { k with fs := putL (dropL k.fs s) t f }) with ⟨en, hen, hne, e⟩ | ⟨f, hs, hlk, e⟩
    ·rw [e]
     refine (ren_bad _ _ _ d s t h1' en _ g0 g1 g2 (fun V' hV => find_bad d F k s _ (hD1.below hV) en hen)).mono ?_
     rintro e w' ⟨rfl, hbe⟩
     exact ⟨gv_no hne rfl, Dp.ofBelow hD1 hbe⟩
    ·rw [e, if_neg (by simp)]
     refine (ren_go _ _ _ d F k on s t hs h1' f hlk hst hfl _ hD1 g1 g2 g0 (fun h => by have := hlt _ h; omega) (fun h => by have := hlt _ h; omega) (fun h => by have := hlt _ h; omega)).mono ?_
     rintro e w' (⟨h0, rfl, hDp⟩ | ⟨h0, rfl, hDp⟩)
     ·rw [if_pos h0]
      exact ⟨gv_no h0 rfl, hDp⟩
     ·rw [if_neg (by simp [h0])]
      exact ⟨Or.inl ⟨rfl, rfl⟩, hDp⟩
 have c0 := box_cell b0
 clear hDW
 obtain ⟨P, hP⟩ : ∃ P, renameK k s t = P := ⟨_, rfl⟩
 rw [hP] at hA ⊢
 clear hP
 go_enter Tryz.func119, Tryz.ntmps119
 go_upto_region 1 with fail
 clear hW
 go_wp2_with (first
  | (go_at_call 48; refine hA.mono ?_; rintro e w1 ⟨rfl, hDp⟩))
 go_ret
 exact ⟨rfl, Dp.from hB hDp⟩
end Go.Proofs.YtikkieaokfailaaGreatDoor

namespace Go.Proofs.YtikkieaokfailaaGreatDoor
open Go.RowKit Go.Joins
def gaveS (n : Nat) : List PanicEntry := [{ v := .iface 143 (.agg #[.int .i64 n]), recovered := false }]
def Gs (n : Nat) (e : Ending) : Prop := (n = 0 ∧ e = .returned (.tuple #[])) ∨ (n ≠ 0 ∧ e = .panicked (gaveS n))
theorem gs_no {en : Nat} (h : en ≠ 0) {e : Ending} (he : e = .panicked (gaveS en)) : Gs en e := Or.inr ⟨h, he⟩
theorem sask_ok (n : Int) (w : World) : Calls Tryz.prog 129 #[.bool true, .int .i64 n] w fun e w' => e = .returned (.tuple #[]) ∧ w' = w := by
 go_enter Tryz.func129, Tryz.ntmps129
 go_wp2
 go_end0
 exact ⟨rfl, rfl⟩
theorem sask_no (n : Nat) (w : World) : Calls Tryz.prog 129 #[.bool false, .int .i64 n] w fun e w' => e = .panicked (gaveS n) ∧ w' = w := by
 go_enter Tryz.func129, Tryz.ntmps129
 go_wp2
 exact ⟨rfl, rfl, rfl⟩
theorem catchS_panicking (p : Addr) (x : Int) (n : Nat) (w : World) (hc : w.cell? p = some (.int .i64 x)) (hz : w.frozen? p = false) :
  CallsD Tryz.prog 97 #[.pointer (some p)] (.panicking (gaveS n)) w fun e u' w' =>
   e = .returned (.tuple #[]) ∧ u' = .panicking [{ v := .iface 143 (.agg #[.int .i64 n]), recovered := true }] ∧ w' = w.setCell p (.int .i64 n) := by
 unfold gaveS
 refine callsD_of_wpS Tryz.func97 rfl fun c₀ cs hu => ?_
 apply wpS_seq
 apply wpS_region
 simp [wpOpsS, go_sem, recoverD, hu, Tryz.ntmps97, Exit.thenS]
 refine wpS_of_wp ?_
 rw [show #[Value.pointer (some p)] ++ ((Array.replicate 7 undef).setIfInBounds 1 (Value.iface 143 (Value.agg #[Value.int IntKind.i64 n]))).setIfInBounds 0 (Value.iface 143 (Value.agg #[Value.int IntKind.i64 n])) = #[Value.pointer (some p), Value.iface 143 (Value.agg #[Value.int IntKind.i64 n]), Value.iface 143 (Value.agg #[Value.int IntKind.i64 n]), undef, undef, undef, undef, undef] from rfl]
 have hta : (Instr.typeAssert (Value.iface 143 (Value.agg #[Value.int IntKind.i64 n])) 20 143 false).run Tryz.prog w = .ok (Value.agg #[Value.int IntKind.i64 n]) w := by
  simp [Instr.typeAssert, go_sem]
 have hfd : (Instr.field 143 (Value.agg #[Value.int IntKind.i64 n]) 0).run Tryz.prog w = .ok (Value.int IntKind.i64 n) w := by
  simp [Instr.field, go_sem, asAgg]
 go_wp2
 simp [bodyPostS, results, Tryz.results97]
theorem catchS_idle (p : Addr) (w : World) :
  CallsD Tryz.prog 97 #[.pointer (some p)] .returning w fun e u' w' => e = .returned (.tuple #[]) ∧ u' = .returning ∧ w' = w := by
 refine callsD_of_wpS Tryz.func97 rfl fun c₀ cs hu => ?_
 apply wpS_seq
 apply wpS_region
 simp [wpOpsS, go_sem, recoverD, hu, Tryz.ntmps97, Exit.thenS]
 refine wpS_of_wp ?_
 rw [show #[Value.pointer (some p)] ++ ((Array.replicate 7 undef).setIfInBounds 1 Value.nilIface).setIfInBounds 0 Value.nilIface = #[Value.pointer (some p), Value.nilIface, Value.nilIface, undef, undef, undef, undef, undef] from rfl]
 go_wp2
 cases c₀
 simp_all [bodyPostS, results, Tryz.results97]
theorem attemptS (k : Nat) (caps : Array Value) (n : Nat) (Post : World → Prop) (w : World) (hent : ∀ args w, (callFunc k args).run Tryz.prog w = .ok (.enter k args) w)
  (hc : Calls Tryz.prog k caps (w.alloc (.cells #[.int .i64 0] 37)) fun e w' => Gs n e ∧ Post w' ∧ w'.heap[w.heap.size]? = some (.cells #[.int .i64 0] 37 (0, 0))) :
  Calls Tryz.prog 60 #[.func (.func k) #[] caps] w fun e w' => e = .returned (.int .i64 n) ∧ ∃ w1, Post w1 ∧ w' = w1.setCell ⟨w.heap.size, 0, none⟩ (.int .i64 n) := by
 have hmf : ∀ (fn : Fn) (first cap : Array Value) (w : World), (Instr.makeFunc fn first cap).run Tryz.prog w = .ok (.func fn first cap) w := fun _ _ _ _ => rfl
 by_cases h0 : n = 0
 ·subst h0
  have hc' := hc.mono (fun e w' h => And.intro (h.1.elim (fun k => k.2) (fun k => absurd rfl k.1)) h.2 : ∀ e w', _ → (e = .returned (.tuple #[]) ∧ _))
  clear hc
  go_enter_defers Tryz.func60, Tryz.ntmps60
  go_wp2_with (first
   | (go_at_fn k; refine hc'.mono ?_; rintro e w1 ⟨rfl, hP, hB⟩; have hcl := cell_one hB; have hfz := thaw_one hB))
  refine leaves_cons (f := 97) (args := #[.pointer (some ⟨w.heap.size, 0, none⟩)]) (by simp) (by simp [go_sem]) ?_
  refine (catchS_idle ⟨w.heap.size, 0, none⟩ _).mono ?_
  rintro e u' w2 ⟨rfl, rfl, rfl⟩
  simp [Leaves, settle, results, Tryz.results60, go_sem, hcl]
  exact ⟨w1, hP, rfl⟩
 ·have hc' := hc.mono (fun e w' h => And.intro (h.1.elim (fun k => absurd k.1 h0) (fun k => k.2)) h.2 : ∀ e w', _ → (e = .panicked (gaveS n) ∧ _))
  clear hc
  go_enter_defers Tryz.func60, Tryz.ntmps60
  go_wp2_with (first
   | (go_at_fn k; refine hc'.mono ?_; rintro e w1 ⟨rfl, hP, hB⟩; have hcl := cell_one hB; have hfz := thaw_one hB))
  refine leaves_cons (f := 97) (args := #[.pointer (some ⟨w.heap.size, 0, none⟩)]) (by simp) (by simp [go_sem]) ?_
  refine (catchS_panicking ⟨w.heap.size, 0, none⟩ 0 n _ hcl hfz).mono ?_
  rintro e u' w2 ⟨rfl, rfl, rfl⟩
  simp [Leaves, settle, results, Tryz.results60, go_sem, hcl]
  exact ⟨w1, hP, rfl⟩
theorem attemptM (k : Nat) (x : Value) (n : Nat) (Post : World → Prop) (w : World) (hent : ∀ args w, (callFunc k args).run Tryz.prog w = .ok (.enter k args) w)
  (hc : Calls Tryz.prog k #[x] (w.alloc (.cells #[.int .i64 0] 37)) fun e w' => Gs n e ∧ Post w' ∧ w'.heap[w.heap.size]? = some (.cells #[.int .i64 0] 37 (0, 0))) :
  Calls Tryz.prog 60 #[.func (.func k) #[x] #[]] w fun e w' => e = .returned (.int .i64 n) ∧ ∃ w1, Post w1 ∧ w' = w1.setCell ⟨w.heap.size, 0, none⟩ (.int .i64 n) := by
 have hmf : ∀ (fn : Fn) (first cap : Array Value) (w : World), (Instr.makeFunc fn first cap).run Tryz.prog w = .ok (.func fn first cap) w := fun _ _ _ _ => rfl
 by_cases h0 : n = 0
 ·subst h0
  have hc' := hc.mono (fun e w' h => And.intro (h.1.elim (fun k => k.2) (fun k => absurd rfl k.1)) h.2 : ∀ e w', _ → (e = .returned (.tuple #[]) ∧ _))
  clear hc
  go_enter_defers Tryz.func60, Tryz.ntmps60
  go_wp2_with (first
   | (go_at_fn k; refine hc'.mono ?_; rintro e w1 ⟨rfl, hP, hB⟩; have hcl := cell_one hB; have hfz := thaw_one hB))
  refine leaves_cons (f := 97) (args := #[.pointer (some ⟨w.heap.size, 0, none⟩)]) (by simp) (by simp [go_sem]) ?_
  refine (catchS_idle ⟨w.heap.size, 0, none⟩ _).mono ?_
  rintro e u' w2 ⟨rfl, rfl, rfl⟩
  simp [Leaves, settle, results, Tryz.results60, go_sem, hcl]
  exact ⟨w1, hP, rfl⟩
 ·have hc' := hc.mono (fun e w' h => And.intro (h.1.elim (fun k => absurd k.1 h0) (fun k => k.2)) h.2 : ∀ e w', _ → (e = .panicked (gaveS n) ∧ _))
  clear hc
  go_enter_defers Tryz.func60, Tryz.ntmps60
  go_wp2_with (first
   | (go_at_fn k; refine hc'.mono ?_; rintro e w1 ⟨rfl, hP, hB⟩; have hcl := cell_one hB; have hfz := thaw_one hB))
  refine leaves_cons (f := 97) (args := #[.pointer (some ⟨w.heap.size, 0, none⟩)]) (by simp) (by simp [go_sem]) ?_
  refine (catchS_panicking ⟨w.heap.size, 0, none⟩ 0 n _ hcl hfz).mono ?_
  rintro e u' w2 ⟨rfl, rfl, rfl⟩
  simp [Leaves, settle, results, Tryz.results60, go_sem, hcl]
  exact ⟨w1, hP, rfl⟩
structure Ch where
 g : Nat
 cnt : Nat
 size : Nat
 loose : Bool
def lcs (d most : Nat) (v : Value) (c : Ch) (dn : Bool) : Array Value := #[.pointer (some ⟨d, 0, none⟩), .int .i64 (most : Int), v, .int .u64 (c.g : Int), .int .i64 (c.cnt : Int), .int .i64 (c.size : Int), .bool c.loose, .bool dn]
structure LD (w : World) (F : Nat → Prop) (lb d most : Nat) (v : Value) (c : Ch) (dn : Bool) (k : Dk) : Prop where
 blk : w.heap[lb]? = some (.cells (lcs d most v c dn) 119 (0, 0))
 D : DiskAt w F d k
 nf : ¬ F lb
section
variable {w w' : World} {F : Nat → Prop} {lb d most : Nat} {v : Value} {c : Ch} {dn : Bool} {k : Dk}
theorem LD.lt (h : LD w F lb d most v c dn k) : lb < w.heap.size := (Array.getElem?_eq_some_iff.1 h.blk).1
theorem LD.keep {S : Nat → Prop} (h : LD w F lb d most v c dn k) (hk : Keep S w w') (hF : ∀ i, F i → ¬ S i) (hl : ¬ S lb) : LD w' F lb d most v c dn k := ⟨box_keep h.blk hk hl, h.D.keep hk hF, h.nf⟩
theorem LD.below (h : LD w F lb d most v c dn k) (hb : Below w.heap.size w w') : LD w' F lb d most v c dn k := ⟨box_below h.blk hb, h.D.below hb, h.nf⟩
theorem LD.c0 (h : LD w F lb d most v c dn k) : w.cell? ⟨lb, 0, none⟩ = some (.pointer (some ⟨d, 0, none⟩)) := by rw [cell_of_block h.blk]; rfl
theorem LD.c1 (h : LD w F lb d most v c dn k) : w.cell? ⟨lb, 1, none⟩ = some (.int .i64 (most : Int)) := by rw [cell_of_block h.blk]; rfl
theorem LD.c2 (h : LD w F lb d most v c dn k) : w.cell? ⟨lb, 2, none⟩ = some v := by rw [cell_of_block h.blk]; rfl
theorem LD.c3 (h : LD w F lb d most v c dn k) : w.cell? ⟨lb, 3, none⟩ = some (.int .u64 (c.g : Int)) := by rw [cell_of_block h.blk]; rfl
theorem LD.c4 (h : LD w F lb d most v c dn k) : w.cell? ⟨lb, 4, none⟩ = some (.int .i64 (c.cnt : Int)) := by rw [cell_of_block h.blk]; rfl
theorem LD.c5 (h : LD w F lb d most v c dn k) : w.cell? ⟨lb, 5, none⟩ = some (.int .i64 (c.size : Int)) := by rw [cell_of_block h.blk]; rfl
theorem LD.c6 (h : LD w F lb d most v c dn k) : w.cell? ⟨lb, 6, none⟩ = some (.bool c.loose) := by rw [cell_of_block h.blk]; rfl
theorem LD.c7 (h : LD w F lb d most v c dn k) : w.cell? ⟨lb, 7, none⟩ = some (.bool dn) := by rw [cell_of_block h.blk]; rfl
theorem LD.fz (h : LD w F lb d most v c dn k) (i : Nat) : w.frozen? ⟨lb, i, none⟩ = false := unfrozen_of_block h.blk i
theorem LD.set (h : LD w F lb d most v c dn k) (i : Nat) (u : Value) {most' : Nat} {v' : Value} {c' : Ch} {dn' : Bool} (e : (lcs d most v c dn).setIfInBounds i u = lcs d most' v' c' dn') : LD (w.setCell ⟨lb, i, none⟩ u) F lb d most' v' c' dn' k :=
 ⟨by rw [← e]; exact block_setCell h.blk u, h.D.keep ((Keep.refl (fun i => i = lb) w).setCell (p := ⟨lb, i, none⟩) rfl u) (fun j hj e => h.nf (by rw [← e]; exact hj)), h.nf⟩
theorem LD.setK (_ : LD w F lb d most v c dn k) (i : Nat) (u : Value) : Keep (fun i => F i ∨ i = lb) w (w.setCell ⟨lb, i, none⟩ u) := (Keep.refl _ w).setCell (p := ⟨lb, i, none⟩) (Or.inr rfl) u
end
def Lp (w : World) (F : Nat → Prop) (lb d most : Nat) (v : Value) (c : Ch) (dn : Bool) (k : Dk) (w' : World) : Prop := ∃ F', LD w' F' lb d most v c dn k ∧ Keep (fun i => F i ∨ i = lb) w w' ∧ (∀ i, F' i → F i ∨ w.heap.size ≤ i)
theorem Lp.refl {w : World} {F : Nat → Prop} {lb d most : Nat} {v : Value} {c : Ch} {dn : Bool} {k : Dk} (h : LD w F lb d most v c dn k) : Lp w F lb d most v c dn k w := ⟨F, h, Keep.refl _ _, fun _ h => Or.inl h⟩
theorem Lp.ofBelow {w w' : World} {F : Nat → Prop} {lb d most : Nat} {v : Value} {c : Ch} {dn : Bool} {k : Dk} (h : LD w F lb d most v c dn k) (hb : Below w.heap.size w w') : Lp w F lb d most v c dn k w' := ⟨F, h.below hb, Keep.ofBelow hb, fun _ h => Or.inl h⟩
theorem Lp.from {w0 w w' : World} {F : Nat → Prop} {lb d most : Nat} {v : Value} {c : Ch} {dn : Bool} {k : Dk} (hb : Below w0.heap.size w0 w) (h : Lp w F lb d most v c dn k w') : Lp w0 F lb d most v c dn k w' := by
 obtain ⟨F', h1, h2, h3⟩ := h
 exact ⟨F', h1, (Keep.ofBelow hb).trans h2, fun i hi => (h3 i hi).imp id (fun h => Nat.le_trans hb.size h)⟩
theorem Lp.next {w w1 w2 : World} {F F1 : Nat → Prop} {lb d most : Nat} {v : Value} {c : Ch} {dn : Bool} {k : Dk} (kp : Keep (fun i => F i ∨ i = lb) w w1) (e1 : ∀ i, F1 i → F i ∨ w.heap.size ≤ i) (h : Lp w1 F1 lb d most v c dn k w2) : Lp w F lb d most v c dn k w2 := by
 obtain ⟨F', h1, h2, h3⟩ := h
 refine ⟨F', h1, kp.andThen h2 (fun i hi hs => ?_), fun i hi => ?_⟩
 ·rcases hs with hs | hs
  ·rcases e1 i hs with h | h
   ·exact Or.inl h
   ·omega
  ·exact Or.inr hs
 ·rcases h3 i hi with h | h
  ·exact e1 i h
  ·exact Or.inr (Nat.le_trans kp.size h)
def stp (dn : Bool) (k : Dk) (r : Nat × Dk) : Nat × Bool × Dk := if dn then (13, true, k) else (r.1, decide (r.1 = 13), r.2)
set_option maxHeartbeats 1000000 in
theorem step_any (f : Nat) (caps : Array Value) (r : Nat × Dk) (w : World) (F : Nat → Prop) (lb d most : Nat) (v : Value) (c : Ch) (dn : Bool) (k : Dk) (h : LD w F lb d most v c dn k)
  (hent : ∀ args w, (callFunc f args).run Tryz.prog w = .ok (.enter f args) w)
  (hc : Calls Tryz.prog f caps w fun e w' => e = .returned (.int .i64 (r.1 : Nat)) ∧ Dp w F d r.2 w') :
  Calls Tryz.prog 117 #[.pointer (some ⟨lb, 0, none⟩), .func (.func f) #[] caps] w fun e w' => Gs (stp dn k r).1 e ∧ Lp w F lb d most v c (stp dn k r).2.1 (stp dn k r).2.2 w' := by
 have q7 := h.c7
 cases dn with
 | true =>
  show Calls _ _ _ _ fun e w' => Gs 13 e ∧ Lp w F lb d most v c true k w'
  go_enter Tryz.func117, Tryz.ntmps117
  go_wp2_with (first
   | (go_at_call 129; refine (sask_no 13 _).mono ?_; rintro e w1 ⟨rfl, rfl⟩))
  exact ⟨rfl, gs_no (by decide) rfl, Lp.refl h⟩
 | false =>
  obtain ⟨en, k2⟩ := r
  show Calls _ _ _ _ fun e w' => Gs en e ∧ Lp w F lb d most v c (decide (en = 13)) k2 w'
  have hfin : ∀ w1 F1, DiskAt w1 F1 d k2 → Keep F w w1 → (∀ i, F1 i → F i ∨ w.heap.size ≤ i) → LD w1 F1 lb d most v c false k2 := fun w1 F1 h1 h2 h3 =>
   ⟨box_keep h.blk h2 h.nf, h1, fun hf => (h3 _ hf).elim h.nf (fun h9 => by have := h.lt; omega)⟩
  have hend : ∀ w1 F1 b, DiskAt w1 F1 d k2 → Keep F w w1 → (∀ i, F1 i → F i ∨ w.heap.size ≤ i) → Lp w F lb d most v c b k2 (w1.setCell ⟨lb, 7, none⟩ (.bool b)) := fun w1 F1 b h1 h2 h3 =>
   ⟨F1, (hfin w1 F1 h1 h2 h3).set 7 _ rfl, (h2.mono (fun _ h => Or.inl h)).trans ((Keep.refl _ w1).setCell (p := ⟨lb, 7, none⟩) (Or.inr rfl) _), h3⟩
  dsimp only at hc
  by_cases h0 : en = 0
  ·subst h0
   have hne : (decide ((0 : Nat) = 13)) = false := rfl
   rw [hne]
   have hc' := hc
   go_enter Tryz.func117, Tryz.ntmps117
   go_wp2_with (first
    | (go_at_call 129; clear q7; refine (sask_ok 13 _).mono ?_; rintro e w1 ⟨rfl, rfl⟩)
    | (go_at_fn f; refine hc'.mono ?_; rintro e w1 ⟨rfl, F1, hD1, hk1, hF1⟩; have p7 := (hfin w1 F1 hD1 hk1 hF1).c7; have z7 := (hfin w1 F1 hD1 hk1 hF1).fz 7)
    | (go_at_call 129; refine (sask_ok 0 _).mono ?_; rintro e w2 ⟨rfl, rfl⟩))
   go_end0
   exact ⟨Or.inl ⟨rfl, rfl⟩, hend w1 F1 false hD1 hk1 hF1⟩
  ·have he0 : ((en : Int) == 0) = false := by rw [beq_eq_false_iff_ne]; omega
   obtain ⟨b, Hb⟩ : ∃ b, Hid (decide (en = 13) = b) := ⟨_, rfl⟩
   have heb : ((en : Int) == 13) = b := by
    rw [← Hb.out]
    by_cases e : en = 13
    ·subst e; rfl
    ·rw [decide_eq_false e, beq_eq_false_iff_ne]; omega
   rw [Hb.out]
   have hc' := hc
   go_enter Tryz.func117, Tryz.ntmps117
   go_wp2_with (first
    | (go_at_call 129; clear q7; refine (sask_ok 13 _).mono ?_; rintro e w1 ⟨rfl, rfl⟩)
    | (go_at_fn f; refine hc'.mono ?_; rintro e w1 ⟨rfl, F1, hD1, hk1, hF1⟩; have p7 := (hfin w1 F1 hD1 hk1 hF1).c7; have z7 := (hfin w1 F1 hD1 hk1 hF1).fz 7)
    | (go_at_call 129; refine (sask_no en _).mono ?_; rintro e w2 ⟨rfl, rfl⟩))
   exact ⟨rfl, gs_no h0 rfl, hend w1 F1 b hD1 hk1 hF1⟩
end Go.Proofs.YtikkieaokfailaaGreatDoor

namespace Go.Proofs.YtikkieaokfailaaGreatDoor
open Go.RowKit Go.Joins
theorem dp_drew {W w' : World} {F : Nat → Prop} {d : Nat} {k : Dk} (h : Dp W.drew F d k w') : Dp W F d k w' := h.from ((Below.refl _ _).drew)
set_option maxHeartbeats 1000000 in
theorem ssyncC (bl b1 lb d most : Nat) (F : Nat → Prop) (v : Value) (c : Ch) (dn : Bool) (k : Dk) (s : Nm) (hst : k.steps < 1000000) (hfl : k.fs.length < 1000000) (W : World) (h : LD W F lb d most v c dn k) (hbl : W.heap[bl]? = some (.cells #[.pointer (some ⟨lb, 0, none⟩)] 48 (0, 0))) (hb1 : W.heap[b1]? = some (.cells #[.string s] 9 (0, 0))) (nbl : ¬ F bl) (nb1 : ¬ F b1) :
  Calls Tryz.prog 141 #[.pointer (some ⟨bl, 0, none⟩), .pointer (some ⟨b1, 0, none⟩)] W fun e w' => e = .returned (.int .i64 (syncK k s).1) ∧ Dp W F d (syncK k s).2 w' := by
 have HS0 : W.drew.cell? ⟨bl, 0, none⟩ = some (.pointer (some ⟨lb, 0, none⟩)) ∧ W.drew.cell? ⟨b1, 0, none⟩ = some (.string s) ∧ W.drew.cell? ⟨lb, 0, none⟩ = some (.pointer (some ⟨d, 0, none⟩)) := ⟨box_cell hbl, box_cell hb1, h.c0⟩
 have hD := fun w' (hb : Below W.heap.size W w') => sync_any d F k s hst hfl w' (h.D.below hb)
 obtain ⟨P, hP⟩ : ∃ P, syncK k s = P := ⟨_, rfl⟩
 rw [hP] at hD ⊢
 clear hP
 have nlb := h.nf
 go_enter Tryz.func141, Tryz.ntmps141
 go_upto_region 1 with fail
 refine wp_region_lx (fun w' => w'.cell? ⟨bl, 0, none⟩ = some (.pointer (some ⟨lb, 0, none⟩)) ∧ w'.cell? ⟨b1, 0, none⟩ = some (.string s) ∧ w'.cell? ⟨lb, 0, none⟩ = some (.pointer (some ⟨d, 0, none⟩))) [] 7 (by kernel_rfl) (by kernel_rfl) ?_
 refine lx_r 0 (.pointer (some ⟨lb, 0, none⟩)) HS0 ?_ (hv := fun w' hS => by have q := hS.1; first | (go_simp; rfl) | go_simp); simp only [lxa, lxb, lxc]
 refine lx_r 1 (.pointer (some ⟨lb, 0, none⟩)) HS0 ?_; simp only [lxa, lxb, lxc]
 refine lx_r 2 (.pointer (some ⟨lb, 0, none⟩)) HS0 ?_; simp only [lxa, lxb, lxc]
 refine lx_r 3 (.pointer (some ⟨d, 0, none⟩)) HS0 ?_ (hv := fun w' hS => by have q := hS.2.2; first | (go_simp; rfl) | go_simp); simp only [lxa, lxb, lxc]
 refine lx_r 4 (.string s) HS0 ?_ (hv := fun w' hS => by have q := hS.2.1; first | (go_simp; rfl) | go_simp); simp only [lxa, lxb, lxc]
 refine lx_one 5 (by kernel_rfl) (stepT_call 142 ?a9 rfl rfl rfl ?r9 ?_)
 case r9 => first | (go_simp; rfl) | go_simp
 refine (hD W.drew ((Below.refl _ _).drew)).mono ?_
 rintro e w1 ⟨rfl, hdp⟩
 have HS1 : w1.cell? ⟨bl, 0, none⟩ = some (.pointer (some ⟨lb, 0, none⟩)) ∧ w1.cell? ⟨b1, 0, none⟩ = some (.string s) ∧ w1.cell? ⟨lb, 0, none⟩ = some (.pointer (some ⟨d, 0, none⟩)) := by
  obtain ⟨_, _, hk, _⟩ := hdp
  exact ⟨hk.cell (p := ⟨bl, 0, none⟩) (HS0.1) nbl, hk.cell (p := ⟨b1, 0, none⟩) (HS0.2.1) nb1, hk.cell (p := ⟨lb, 0, none⟩) (HS0.2.2) nlb⟩
 refine ⟨_, rfl, fun _ => HS1, ?_⟩
 simp only [lxa, lxb, lxc]
 refine lx_r 6 _ HS1 ?_; simp only [lxa, lxb, lxc]
 refine lx_nil (by kernel_rfl) ?_
 go_wp2
 go_ret
 exact ⟨rfl, dp_drew hdp⟩
set_option maxHeartbeats 1000000 in
theorem ssync_any (lb d most : Nat) (F : Nat → Prop) (v : Value) (c : Ch) (dn : Bool) (k : Dk) (s : Nm) (hst : k.steps < 1000000) (hfl : k.fs.length < 1000000) (w : World) (h : LD w F lb d most v c dn k) :
  Calls Tryz.prog 104 #[.pointer (some ⟨lb, 0, none⟩), .string s] w fun e w' => Gs (stp dn k (syncK k s)).1 e ∧ Lp w F lb d most v c (stp dn k (syncK k s)).2.1 (stp dn k (syncK k s)).2.2 w' := by
 have hmf : ∀ (fn : Fn) (first cap : Array Value) (w : World), (Instr.makeFunc fn first cap).run Tryz.prog w = .ok (.func fn first cap) w := fun _ _ _ _ => rfl
 obtain ⟨W, hW⟩ : ∃ W, (w.alloc (.cells #[.pointer (some ⟨lb, 0, none⟩)] 48)).alloc (.cells #[.string s] 9) = W := ⟨_, rfl⟩
 have hB : Below w.heap.size w W := by rw [← hW]; exact ((Below.refl _ _).alloc (Nat.le_refl _) _).alloc (by simp) _
 have q0 : W.heap[w.heap.size]? = some (.cells #[.pointer (some ⟨lb, 0, none⟩)] 48 (0, 0)) := by rw [← hW]; exact (by simpa using alloc2_at (w) (.cells #[.pointer (some ⟨lb, 0, none⟩)] 48) (.cells #[.string s] 9))
 have q1 : W.heap[w.heap.size + 1]? = some (.cells #[.string s] 9 (0, 0)) := by rw [← hW]; exact (by simpa using alloc_at (w.alloc (.cells #[.pointer (some ⟨lb, 0, none⟩)] 48)) (.cells #[.string s] 9))
 have hLW := h.below hB
 have hlt := h.D.lt
 have hA : Calls Tryz.prog 117 #[.pointer (some ⟨lb, 0, none⟩), .func (.func 141) #[] #[.pointer (some ⟨w.heap.size, 0, none⟩), .pointer (some ⟨w.heap.size + 1, 0, none⟩)]] W fun e w' => Gs (stp dn k (syncK k s)).1 e ∧ Lp W F lb d most v c (stp dn k (syncK k s)).2.1 (stp dn k (syncK k s)).2.2 w' := by
  refine step_any _ _ _ W F lb d most v c dn k hLW (enters_of Tryz.func141 (by kernel_rfl) rfl) ?_
  exact ssyncC (w.heap.size) (w.heap.size + 1) lb d most F v c dn k s hst hfl W hLW q0 q1 (fun hf => by have := hlt _ hf; omega) (fun hf => by have := hlt _ hf; omega)
 have c0 := box_cell q0
 clear hLW
 obtain ⟨P, hP⟩ : ∃ P, stp dn k (syncK k s) = P := ⟨_, rfl⟩
 rw [hP] at hA ⊢
 clear hP
 obtain ⟨en, P2⟩ := P
 dsimp only at hA ⊢
 by_cases h0 : en = 0
 ·subst h0
  have hA' := hA.mono (fun e w' h => And.intro (h.1.elim (fun k => k.2) (fun k => absurd rfl k.1)) h.2 : ∀ e w', _ → (e = .returned (.tuple #[]) ∧ _))
  clear hA
  go_enter Tryz.func104, Tryz.ntmps104
  go_upto_region 1 with fail
  clear hW
  go_wp2_with (first
   | (go_at_call 117; refine hA'.mono ?_; rintro e w1 ⟨rfl, hp⟩))
  go_end0
  exact ⟨Or.inl ⟨rfl, rfl⟩, hp.from hB⟩
 ·have hA' := hA.mono (fun e w' h => And.intro (h.1.elim (fun k => absurd k.1 h0) (fun k => k.2)) h.2 : ∀ e w', _ → (e = .panicked (gaveS en) ∧ _))
  clear hA
  go_enter Tryz.func104, Tryz.ntmps104
  go_upto_region 1 with fail
  clear hW
  go_wp2_with (first
   | (go_at_call 117; refine hA'.mono ?_; rintro e w1 ⟨rfl, hp⟩))
  exact ⟨rfl, gs_no h0 rfl, hp.from hB⟩
set_option maxHeartbeats 1000000 in
theorem sremoveC (bl b1 lb d most : Nat) (F : Nat → Prop) (v : Value) (c : Ch) (dn : Bool) (k : Dk) (s : Nm) (hst : k.steps < 1000000) (W : World) (h : LD W F lb d most v c dn k) (hbl : W.heap[bl]? = some (.cells #[.pointer (some ⟨lb, 0, none⟩)] 48 (0, 0))) (hb1 : W.heap[b1]? = some (.cells #[.string s] 9 (0, 0))) (nbl : ¬ F bl) (nb1 : ¬ F b1) :
  Calls Tryz.prog 152 #[.pointer (some ⟨bl, 0, none⟩), .pointer (some ⟨b1, 0, none⟩)] W fun e w' => e = .returned (.int .i64 (removeK k s).1) ∧ Dp W F d (removeK k s).2 w' := by
 have HS0 : W.drew.cell? ⟨bl, 0, none⟩ = some (.pointer (some ⟨lb, 0, none⟩)) ∧ W.drew.cell? ⟨b1, 0, none⟩ = some (.string s) ∧ W.drew.cell? ⟨lb, 0, none⟩ = some (.pointer (some ⟨d, 0, none⟩)) := ⟨box_cell hbl, box_cell hb1, h.c0⟩
 have hD := fun w' (hb : Below W.heap.size W w') => remove_any d F k s hst w' (h.D.below hb)
 obtain ⟨P, hP⟩ : ∃ P, removeK k s = P := ⟨_, rfl⟩
 rw [hP] at hD ⊢
 clear hP
 have nlb := h.nf
 go_enter Tryz.func152, Tryz.ntmps152
 go_upto_region 1 with fail
 refine wp_region_lx (fun w' => w'.cell? ⟨bl, 0, none⟩ = some (.pointer (some ⟨lb, 0, none⟩)) ∧ w'.cell? ⟨b1, 0, none⟩ = some (.string s) ∧ w'.cell? ⟨lb, 0, none⟩ = some (.pointer (some ⟨d, 0, none⟩))) [] 7 (by kernel_rfl) (by kernel_rfl) ?_
 refine lx_r 0 (.pointer (some ⟨lb, 0, none⟩)) HS0 ?_ (hv := fun w' hS => by have q := hS.1; first | (go_simp; rfl) | go_simp); simp only [lxa, lxb, lxc]
 refine lx_r 1 (.pointer (some ⟨lb, 0, none⟩)) HS0 ?_; simp only [lxa, lxb, lxc]
 refine lx_r 2 (.pointer (some ⟨lb, 0, none⟩)) HS0 ?_; simp only [lxa, lxb, lxc]
 refine lx_r 3 (.pointer (some ⟨d, 0, none⟩)) HS0 ?_ (hv := fun w' hS => by have q := hS.2.2; first | (go_simp; rfl) | go_simp); simp only [lxa, lxb, lxc]
 refine lx_r 4 (.string s) HS0 ?_ (hv := fun w' hS => by have q := hS.2.1; first | (go_simp; rfl) | go_simp); simp only [lxa, lxb, lxc]
 refine lx_one 5 (by kernel_rfl) (stepT_call 153 ?a9 rfl rfl rfl ?r9 ?_)
 case r9 => first | (go_simp; rfl) | go_simp
 refine (hD W.drew ((Below.refl _ _).drew)).mono ?_
 rintro e w1 ⟨rfl, hdp⟩
 have HS1 : w1.cell? ⟨bl, 0, none⟩ = some (.pointer (some ⟨lb, 0, none⟩)) ∧ w1.cell? ⟨b1, 0, none⟩ = some (.string s) ∧ w1.cell? ⟨lb, 0, none⟩ = some (.pointer (some ⟨d, 0, none⟩)) := by
  obtain ⟨_, _, hk, _⟩ := hdp
  exact ⟨hk.cell (p := ⟨bl, 0, none⟩) (HS0.1) nbl, hk.cell (p := ⟨b1, 0, none⟩) (HS0.2.1) nb1, hk.cell (p := ⟨lb, 0, none⟩) (HS0.2.2) nlb⟩
 refine ⟨_, rfl, fun _ => HS1, ?_⟩
 simp only [lxa, lxb, lxc]
 refine lx_r 6 _ HS1 ?_; simp only [lxa, lxb, lxc]
 refine lx_nil (by kernel_rfl) ?_
 go_wp2
 go_ret
 exact ⟨rfl, dp_drew hdp⟩
set_option maxHeartbeats 1000000 in
theorem sremove_any (lb d most : Nat) (F : Nat → Prop) (v : Value) (c : Ch) (dn : Bool) (k : Dk) (s : Nm) (hst : k.steps < 1000000) (w : World) (h : LD w F lb d most v c dn k) :
  Calls Tryz.prog 134 #[.pointer (some ⟨lb, 0, none⟩), .string s] w fun e w' => Gs (stp dn k (removeK k s)).1 e ∧ Lp w F lb d most v c (stp dn k (removeK k s)).2.1 (stp dn k (removeK k s)).2.2 w' := by
 have hmf : ∀ (fn : Fn) (first cap : Array Value) (w : World), (Instr.makeFunc fn first cap).run Tryz.prog w = .ok (.func fn first cap) w := fun _ _ _ _ => rfl
 obtain ⟨W, hW⟩ : ∃ W, (w.alloc (.cells #[.pointer (some ⟨lb, 0, none⟩)] 48)).alloc (.cells #[.string s] 9) = W := ⟨_, rfl⟩
 have hB : Below w.heap.size w W := by rw [← hW]; exact ((Below.refl _ _).alloc (Nat.le_refl _) _).alloc (by simp) _
 have q0 : W.heap[w.heap.size]? = some (.cells #[.pointer (some ⟨lb, 0, none⟩)] 48 (0, 0)) := by rw [← hW]; exact (by simpa using alloc2_at (w) (.cells #[.pointer (some ⟨lb, 0, none⟩)] 48) (.cells #[.string s] 9))
 have q1 : W.heap[w.heap.size + 1]? = some (.cells #[.string s] 9 (0, 0)) := by rw [← hW]; exact (by simpa using alloc_at (w.alloc (.cells #[.pointer (some ⟨lb, 0, none⟩)] 48)) (.cells #[.string s] 9))
 have hLW := h.below hB
 have hlt := h.D.lt
 have hA : Calls Tryz.prog 117 #[.pointer (some ⟨lb, 0, none⟩), .func (.func 152) #[] #[.pointer (some ⟨w.heap.size, 0, none⟩), .pointer (some ⟨w.heap.size + 1, 0, none⟩)]] W fun e w' => Gs (stp dn k (removeK k s)).1 e ∧ Lp W F lb d most v c (stp dn k (removeK k s)).2.1 (stp dn k (removeK k s)).2.2 w' := by
  refine step_any _ _ _ W F lb d most v c dn k hLW (enters_of Tryz.func152 (by kernel_rfl) rfl) ?_
  exact sremoveC (w.heap.size) (w.heap.size + 1) lb d most F v c dn k s hst W hLW q0 q1 (fun hf => by have := hlt _ hf; omega) (fun hf => by have := hlt _ hf; omega)
 have c0 := box_cell q0
 clear hLW
 obtain ⟨P, hP⟩ : ∃ P, stp dn k (removeK k s) = P := ⟨_, rfl⟩
 rw [hP] at hA ⊢
 clear hP
 obtain ⟨en, P2⟩ := P
 dsimp only at hA ⊢
 by_cases h0 : en = 0
 ·subst h0
  have hA' := hA.mono (fun e w' h => And.intro (h.1.elim (fun k => k.2) (fun k => absurd rfl k.1)) h.2 : ∀ e w', _ → (e = .returned (.tuple #[]) ∧ _))
  clear hA
  go_enter Tryz.func134, Tryz.ntmps134
  go_upto_region 1 with fail
  clear hW
  go_wp2_with (first
   | (go_at_call 117; refine hA'.mono ?_; rintro e w1 ⟨rfl, hp⟩))
  go_end0
  exact ⟨Or.inl ⟨rfl, rfl⟩, hp.from hB⟩
 ·have hA' := hA.mono (fun e w' h => And.intro (h.1.elim (fun k => absurd k.1 h0) (fun k => k.2)) h.2 : ∀ e w', _ → (e = .panicked (gaveS en) ∧ _))
  clear hA
  go_enter Tryz.func134, Tryz.ntmps134
  go_upto_region 1 with fail
  clear hW
  go_wp2_with (first
   | (go_at_call 117; refine hA'.mono ?_; rintro e w1 ⟨rfl, hp⟩))
  exact ⟨rfl, gs_no h0 rfl, hp.from hB⟩
set_option maxHeartbeats 1000000 in
theorem swriteC (bl b1 b2 lb d most : Nat) (F : Nat → Prop) (v : Value) (c : Ch) (dn : Bool) (k : Dk) (s : Nm) (a : Option Addr) (m e : Nat) (ys : List Int) (hst : k.steps < 1000000) (hfl : k.fs.length < 1000000) (hm : m ≤ 1000000000) (W : World) (h : LD W F lb d most v c dn k) (hbl : W.heap[bl]? = some (.cells #[.pointer (some ⟨lb, 0, none⟩)] 48 (0, 0))) (hb1 : W.heap[b1]? = some (.cells #[.string s] 9 (0, 0))) (hb2 : W.heap[b2]? = some (.cells #[.slice a m e] 29 (0, 0))) (nbl : ¬ F bl) (nb1 : ¬ F b1) (nb2 : ¬ F b2) (hR : Rd W a m e ys) :
  Calls Tryz.prog 138 #[.pointer (some ⟨bl, 0, none⟩), .pointer (some ⟨b1, 0, none⟩), .pointer (some ⟨b2, 0, none⟩)] W fun e w' => e = .returned (.int .i64 (appK k s ys).1) ∧ Dp W F d (appK k s ys).2 w' := by
 have HS0 : W.drew.cell? ⟨bl, 0, none⟩ = some (.pointer (some ⟨lb, 0, none⟩)) ∧ W.drew.cell? ⟨b1, 0, none⟩ = some (.string s) ∧ W.drew.cell? ⟨b2, 0, none⟩ = some (.slice a m e) ∧ W.drew.cell? ⟨lb, 0, none⟩ = some (.pointer (some ⟨d, 0, none⟩)) := ⟨box_cell hbl, box_cell hb1, box_cell hb2, h.c0⟩
 have hD := fun w' (hb : Below W.heap.size W w') => append_any d F k s a m e ys hst hfl hm w' (h.D.below hb) (hR.carry (Nat.le_refl _) hb)
 obtain ⟨P, hP⟩ : ∃ P, appK k s ys = P := ⟨_, rfl⟩
 rw [hP] at hD ⊢
 clear hP
 have nlb := h.nf
 go_enter Tryz.func138, Tryz.ntmps138
 go_upto_region 1 with fail
 refine wp_region_lx (fun w' => w'.cell? ⟨bl, 0, none⟩ = some (.pointer (some ⟨lb, 0, none⟩)) ∧ w'.cell? ⟨b1, 0, none⟩ = some (.string s) ∧ w'.cell? ⟨b2, 0, none⟩ = some (.slice a m e) ∧ w'.cell? ⟨lb, 0, none⟩ = some (.pointer (some ⟨d, 0, none⟩))) [] 8 (by kernel_rfl) (by kernel_rfl) ?_
 refine lx_r 0 (.pointer (some ⟨lb, 0, none⟩)) HS0 ?_ (hv := fun w' hS => by have q := hS.1; first | (go_simp; rfl) | go_simp); simp only [lxa, lxb, lxc]
 refine lx_r 1 (.pointer (some ⟨lb, 0, none⟩)) HS0 ?_; simp only [lxa, lxb, lxc]
 refine lx_r 2 (.pointer (some ⟨lb, 0, none⟩)) HS0 ?_; simp only [lxa, lxb, lxc]
 refine lx_r 3 (.pointer (some ⟨d, 0, none⟩)) HS0 ?_ (hv := fun w' hS => by have q := hS.2.2.2; first | (go_simp; rfl) | go_simp); simp only [lxa, lxb, lxc]
 refine lx_r 4 (.string s) HS0 ?_ (hv := fun w' hS => by have q := hS.2.1; first | (go_simp; rfl) | go_simp); simp only [lxa, lxb, lxc]
 refine lx_r 5 (.slice a m e) HS0 ?_ (hv := fun w' hS => by have q := hS.2.2.1; first | (go_simp; rfl) | go_simp); simp only [lxa, lxb, lxc]
 refine lx_one 6 (by kernel_rfl) (stepT_call 16 ?a9 rfl rfl rfl ?r9 ?_)
 case r9 => first | (go_simp; rfl) | go_simp
 refine (hD W.drew ((Below.refl _ _).drew)).mono ?_
 rintro e w1 ⟨rfl, hdp⟩
 have HS1 : w1.cell? ⟨bl, 0, none⟩ = some (.pointer (some ⟨lb, 0, none⟩)) ∧ w1.cell? ⟨b1, 0, none⟩ = some (.string s) ∧ w1.cell? ⟨b2, 0, none⟩ = some (.slice a m e) ∧ w1.cell? ⟨lb, 0, none⟩ = some (.pointer (some ⟨d, 0, none⟩)) := by
  obtain ⟨_, _, hk, _⟩ := hdp
  exact ⟨hk.cell (p := ⟨bl, 0, none⟩) (HS0.1) nbl, hk.cell (p := ⟨b1, 0, none⟩) (HS0.2.1) nb1, hk.cell (p := ⟨b2, 0, none⟩) (HS0.2.2.1) nb2, hk.cell (p := ⟨lb, 0, none⟩) (HS0.2.2.2) nlb⟩
 refine ⟨_, rfl, fun _ => HS1, ?_⟩
 simp only [lxa, lxb, lxc]
 refine lx_r 7 _ HS1 ?_; simp only [lxa, lxb, lxc]
 refine lx_nil (by kernel_rfl) ?_
 go_wp2
 go_ret
 exact ⟨rfl, dp_drew hdp⟩
set_option maxHeartbeats 1000000 in
theorem swrite_any (lb d most : Nat) (F : Nat → Prop) (v : Value) (c : Ch) (dn : Bool) (k : Dk) (s : Nm) (a : Option Addr) (m e : Nat) (ys : List Int) (hst : k.steps < 1000000) (hfl : k.fs.length < 1000000) (hm : m ≤ 1000000000) (w : World) (h : LD w F lb d most v c dn k) (hR : Rd w a m e ys) :
  Calls Tryz.prog 102 #[.pointer (some ⟨lb, 0, none⟩), .string s, .slice a m e] w fun e w' => Gs (stp dn k (appK k s ys)).1 e ∧ Lp w F lb d most v c (stp dn k (appK k s ys)).2.1 (stp dn k (appK k s ys)).2.2 w' := by
 have hmf : ∀ (fn : Fn) (first cap : Array Value) (w : World), (Instr.makeFunc fn first cap).run Tryz.prog w = .ok (.func fn first cap) w := fun _ _ _ _ => rfl
 obtain ⟨W, hW⟩ : ∃ W, ((w.alloc (.cells #[.pointer (some ⟨lb, 0, none⟩)] 48)).alloc (.cells #[.string s] 9)).alloc (.cells #[.slice a m e] 29) = W := ⟨_, rfl⟩
 have hB : Below w.heap.size w W := by rw [← hW]; exact (((Below.refl _ _).alloc (Nat.le_refl _) _).alloc (by simp) _).alloc (by simp; omega) _
 have q0 : W.heap[w.heap.size]? = some (.cells #[.pointer (some ⟨lb, 0, none⟩)] 48 (0, 0)) := by rw [← hW]; exact alloc3_at w _ _ _
 have q1 : W.heap[w.heap.size + 1]? = some (.cells #[.string s] 9 (0, 0)) := by rw [← hW]; exact (by simpa using alloc2_at (w.alloc (.cells #[.pointer (some ⟨lb, 0, none⟩)] 48)) (.cells #[.string s] 9) (.cells #[.slice a m e] 29))
 have q2 : W.heap[w.heap.size + 1 + 1]? = some (.cells #[.slice a m e] 29 (0, 0)) := by rw [← hW]; exact (by simpa using alloc_at ((w.alloc (.cells #[.pointer (some ⟨lb, 0, none⟩)] 48)).alloc (.cells #[.string s] 9)) (.cells #[.slice a m e] 29))
 have hLW := h.below hB
 have hRW := hR.carry (Nat.le_refl _) hB
 have hlt := h.D.lt
 have hA : Calls Tryz.prog 117 #[.pointer (some ⟨lb, 0, none⟩), .func (.func 138) #[] #[.pointer (some ⟨w.heap.size, 0, none⟩), .pointer (some ⟨w.heap.size + 1, 0, none⟩), .pointer (some ⟨w.heap.size + 1 + 1, 0, none⟩)]] W fun e w' => Gs (stp dn k (appK k s ys)).1 e ∧ Lp W F lb d most v c (stp dn k (appK k s ys)).2.1 (stp dn k (appK k s ys)).2.2 w' := by
  refine step_any _ _ _ W F lb d most v c dn k hLW (enters_of Tryz.func138 (by kernel_rfl) rfl) ?_
  exact swriteC (w.heap.size) (w.heap.size + 1) (w.heap.size + 1 + 1) lb d most F v c dn k s a m e ys hst hfl hm W hLW q0 q1 q2 (fun hf => by have := hlt _ hf; omega) (fun hf => by have := hlt _ hf; omega) (fun hf => by have := hlt _ hf; omega) hRW
 have c0 := box_cell q0
 clear hLW hRW
 obtain ⟨P, hP⟩ : ∃ P, stp dn k (appK k s ys) = P := ⟨_, rfl⟩
 rw [hP] at hA ⊢
 clear hP
 obtain ⟨en, P2⟩ := P
 dsimp only at hA ⊢
 by_cases h0 : en = 0
 ·subst h0
  have hA' := hA.mono (fun e w' h => And.intro (h.1.elim (fun k => k.2) (fun k => absurd rfl k.1)) h.2 : ∀ e w', _ → (e = .returned (.tuple #[]) ∧ _))
  clear hA
  go_enter Tryz.func102, Tryz.ntmps102
  go_upto_region 1 with fail
  clear hW
  go_wp2_with (first
   | (go_at_call 117; refine hA'.mono ?_; rintro e w1 ⟨rfl, hp⟩))
  go_end0
  exact ⟨Or.inl ⟨rfl, rfl⟩, hp.from hB⟩
 ·have hA' := hA.mono (fun e w' h => And.intro (h.1.elim (fun k => absurd k.1 h0) (fun k => k.2)) h.2 : ∀ e w', _ → (e = .panicked (gaveS en) ∧ _))
  clear hA
  go_enter Tryz.func102, Tryz.ntmps102
  go_upto_region 1 with fail
  clear hW
  go_wp2_with (first
   | (go_at_call 117; refine hA'.mono ?_; rintro e w1 ⟨rfl, hp⟩))
  exact ⟨rfl, gs_no h0 rfl, hp.from hB⟩
end Go.Proofs.YtikkieaokfailaaGreatDoor

namespace Go.Proofs
open Go.Shelf
def Tryz.laysM171_ren : Go.Shelf.Ren := ⟨fun | 171 => 140 | 243 => 159 | 246 => 174 | 283 => 170 | 284 => 171 | 285 => 172 | 286 => 173 | 129 => 184 | 317 => 186 | 318 => 187 | 319 => 188 | 320 => 189 | 337 => 195 | 338 => 196 | n => n, fun | 3 => 3 | 9 => 9 | 2 => 2 | 4 => 4 | 171 => 184 | 0 => 0 | 53 => 88 | 37 => 29 | 5 => 5 | 173 => 187 | 212 => 199 | 51 => 159 | 20 => 20 | 213 => 200 | 46 => 86 | 232 => 209 | 233 => 210 | n => n, fun | 17 => 0 | 18 => 1 | 19 => 2 | n => n⟩
theorem Tryz.laysM171 : Go.Proofs.LaysM.n171 Tryz.prog Tryz.laysM171_ren := {
 mixed := by kernel_rfl
 f129 := Tryz.func184.trans (congrArg some (by kernel_rfl))
 f171 := Tryz.func140.trans (congrArg some (by kernel_rfl))
 f243 := Tryz.func159.trans (congrArg some (by kernel_rfl))
 f246 := Tryz.func174.trans (congrArg some (by kernel_rfl))
 f283 := Tryz.func170.trans (congrArg some (by kernel_rfl))
 f284 := Tryz.func171.trans (congrArg some (by kernel_rfl))
 f285 := Tryz.func172.trans (congrArg some (by kernel_rfl))
 f286 := Tryz.func173.trans (congrArg some (by kernel_rfl))
 f317 := Tryz.func186.trans (congrArg some (by kernel_rfl))
 f318 := Tryz.func187.trans (congrArg some (by kernel_rfl))
 f319 := Tryz.func188.trans (congrArg some (by kernel_rfl))
 f320 := Tryz.func189.trans (congrArg some (by kernel_rfl))
 f337 := Tryz.func195.trans (congrArg some (by kernel_rfl))
 f338 := Tryz.func196.trans (congrArg some (by kernel_rfl))
 t0 := Tryz.underlying0
 a0 := Tryz.isAgg0
 z0 := Tryz.sizeOf0
 v0 := Tryz.zeroValue0
 t2 := Tryz.underlying2
 a2 := Tryz.isAgg2
 z2 := Tryz.sizeOf2
 v2 := Tryz.zeroValue2
 t3 := Tryz.underlying3
 a3 := Tryz.isAgg3
 z3 := Tryz.sizeOf3
 v3 := Tryz.zeroValue3
 t4 := Tryz.underlying4
 a4 := Tryz.isAgg4
 z4 := Tryz.sizeOf4
 v4 := Tryz.zeroValue4
 t5 := Tryz.underlying5
 a5 := Tryz.isAgg5
 z5 := Tryz.sizeOf5
 v5 := Tryz.zeroValue5
 t9 := Tryz.underlying9
 a9 := Tryz.isAgg9
 z9 := Tryz.sizeOf9
 v9 := Tryz.zeroValue9
 t20 := Tryz.underlying20
 a20 := Tryz.isAgg20
 z20 := Tryz.sizeOf20
 v20 := Tryz.zeroValue20
 t37 := Tryz.underlying29
 a37 := Tryz.isAgg29
 z37 := Tryz.sizeOf29
 v37 := Tryz.zeroValue29
 t46 := Tryz.underlying86
 a46 := Tryz.isAgg86
 z46 := Tryz.sizeOf86
 v46 := Tryz.zeroValue86
 t51 := Tryz.underlying159
 a51 := Tryz.isAgg159
 z51 := Tryz.sizeOf159
 v51 := Tryz.zeroValue159
 t53 := Tryz.underlying88
 a53 := Tryz.isAgg88
 z53 := Tryz.sizeOf88
 v53 := Tryz.zeroValue88
 t171 := Tryz.underlying184
 a171 := Tryz.isAgg184
 z171 := Tryz.sizeOf184
 v171 := Tryz.zeroValue184
 t173 := Tryz.underlying187
 a173 := Tryz.isAgg187
 z173 := Tryz.sizeOf187
 v173 := Tryz.zeroValue187
 t212 := Tryz.underlying199
 a212 := Tryz.isAgg199
 z212 := Tryz.sizeOf199
 v212 := Tryz.zeroValue199
 t213 := Tryz.underlying200
 a213 := Tryz.isAgg200
 z213 := Tryz.sizeOf200
 t232 := Tryz.underlying209
 a232 := Tryz.isAgg209
 z232 := Tryz.sizeOf209
 v232 := Tryz.zeroValue209
 t233 := Tryz.underlying210
 a233 := Tryz.isAgg210
 z233 := Tryz.sizeOf210
 v233 := Tryz.zeroValue210
 g17 := by kernel_rfl
 g18 := by kernel_rfl
 g19 := by kernel_rfl
 i0 := by kernel_rfl
 i2 := by kernel_rfl
 i3 := by kernel_rfl
 i4 := by kernel_rfl
 i5 := by kernel_rfl
 i9 := by kernel_rfl
 i20 := by kernel_rfl
 i37 := by kernel_rfl
 i46 := by kernel_rfl
 i51 := by kernel_rfl
 i53 := by kernel_rfl
 i171 := by kernel_rfl
 i173 := by kernel_rfl
 i212 := by kernel_rfl
 i232 := by kernel_rfl
 i233 := by kernel_rfl
 m17 := by kernel_rfl
 m18 := by kernel_rfl
 m19 := by kernel_rfl }
def Tryz.lays283_ren : Go.Shelf.Ren := ⟨fun | 283 => 170 | n => n, fun | 3 => 3 | 9 => 9 | 4 => 4 | n => n, fun | n => n⟩
theorem Tryz.lays283 : Go.Proofs.Lays.n283 Tryz.prog Tryz.lays283_ren := {
 mixed := by kernel_rfl
 f283 := Tryz.func170.trans (congrArg some (by kernel_rfl))
 t3 := Tryz.underlying3
 a3 := Tryz.isAgg3
 z3 := Tryz.sizeOf3
 v3 := Tryz.zeroValue3
 t4 := Tryz.underlying4
 a4 := Tryz.isAgg4
 z4 := Tryz.sizeOf4
 v4 := Tryz.zeroValue4
 t9 := Tryz.underlying9
 a9 := Tryz.isAgg9
 z9 := Tryz.sizeOf9
 v9 := Tryz.zeroValue9 }
def Tryz.laysM284_ren : Go.Shelf.Ren := ⟨fun | 284 => 171 | 129 => 184 | 317 => 186 | 318 => 187 | n => n, fun | 53 => 88 | 3 => 3 | 212 => 199 | 0 => 0 | 4 => 4 | 46 => 86 | 5 => 5 | 9 => 9 | n => n, fun | 17 => 0 | n => n⟩
theorem Tryz.laysM284 : Go.Proofs.LaysM.n284 Tryz.prog Tryz.laysM284_ren := {
 mixed := by kernel_rfl
 f129 := Tryz.func184.trans (congrArg some (by kernel_rfl))
 f284 := Tryz.func171.trans (congrArg some (by kernel_rfl))
 f317 := Tryz.func186.trans (congrArg some (by kernel_rfl))
 f318 := Tryz.func187.trans (congrArg some (by kernel_rfl))
 t0 := Tryz.underlying0
 a0 := Tryz.isAgg0
 z0 := Tryz.sizeOf0
 v0 := Tryz.zeroValue0
 t3 := Tryz.underlying3
 a3 := Tryz.isAgg3
 z3 := Tryz.sizeOf3
 v3 := Tryz.zeroValue3
 t4 := Tryz.underlying4
 a4 := Tryz.isAgg4
 z4 := Tryz.sizeOf4
 v4 := Tryz.zeroValue4
 t5 := Tryz.underlying5
 a5 := Tryz.isAgg5
 z5 := Tryz.sizeOf5
 v5 := Tryz.zeroValue5
 t9 := Tryz.underlying9
 a9 := Tryz.isAgg9
 z9 := Tryz.sizeOf9
 v9 := Tryz.zeroValue9
 t46 := Tryz.underlying86
 a46 := Tryz.isAgg86
 z46 := Tryz.sizeOf86
 v46 := Tryz.zeroValue86
 t53 := Tryz.underlying88
 a53 := Tryz.isAgg88
 z53 := Tryz.sizeOf88
 v53 := Tryz.zeroValue88
 t212 := Tryz.underlying199
 a212 := Tryz.isAgg199
 z212 := Tryz.sizeOf199
 v212 := Tryz.zeroValue199
 g17 := by kernel_rfl
 i0 := by kernel_rfl
 i3 := by kernel_rfl
 i4 := by kernel_rfl
 i5 := by kernel_rfl
 i9 := by kernel_rfl
 i46 := by kernel_rfl
 i53 := by kernel_rfl
 i212 := by kernel_rfl
 m17 := by kernel_rfl }
def Tryz.lays285_ren : Go.Shelf.Ren := ⟨fun | 285 => 172 | n => n, fun | 37 => 29 | 53 => 88 | 3 => 3 | 4 => 4 | 51 => 159 | 9 => 9 | 5 => 5 | 0 => 0 | n => n, fun | n => n⟩
theorem Tryz.lays285 : Go.Proofs.Lays.n285 Tryz.prog Tryz.lays285_ren := {
 mixed := by kernel_rfl
 f285 := Tryz.func172.trans (congrArg some (by kernel_rfl))
 t0 := Tryz.underlying0
 a0 := Tryz.isAgg0
 z0 := Tryz.sizeOf0
 v0 := Tryz.zeroValue0
 t3 := Tryz.underlying3
 a3 := Tryz.isAgg3
 z3 := Tryz.sizeOf3
 v3 := Tryz.zeroValue3
 t4 := Tryz.underlying4
 a4 := Tryz.isAgg4
 z4 := Tryz.sizeOf4
 v4 := Tryz.zeroValue4
 t5 := Tryz.underlying5
 a5 := Tryz.isAgg5
 z5 := Tryz.sizeOf5
 v5 := Tryz.zeroValue5
 t9 := Tryz.underlying9
 a9 := Tryz.isAgg9
 z9 := Tryz.sizeOf9
 v9 := Tryz.zeroValue9
 t37 := Tryz.underlying29
 a37 := Tryz.isAgg29
 z37 := Tryz.sizeOf29
 v37 := Tryz.zeroValue29
 t51 := Tryz.underlying159
 a51 := Tryz.isAgg159
 z51 := Tryz.sizeOf159
 v51 := Tryz.zeroValue159
 t53 := Tryz.underlying88
 a53 := Tryz.isAgg88
 z53 := Tryz.sizeOf88
 v53 := Tryz.zeroValue88 }
def Tryz.lays99_ren : Go.Shelf.Ren := ⟨fun | 99 => 151 | 206 => 166 | n => n, fun | 9 => 9 | 4 => 4 | 3 => 3 | n => n, fun | n => n⟩
theorem Tryz.lays99 : Go.Proofs.Lays.n99 Tryz.prog Tryz.lays99_ren := {
 mixed := by kernel_rfl
 f99 := Tryz.func151.trans (congrArg some (by kernel_rfl))
 f206 := Tryz.func166.trans (congrArg some (by kernel_rfl))
 t3 := Tryz.underlying3
 a3 := Tryz.isAgg3
 z3 := Tryz.sizeOf3
 v3 := Tryz.zeroValue3
 t4 := Tryz.underlying4
 a4 := Tryz.isAgg4
 z4 := Tryz.sizeOf4
 v4 := Tryz.zeroValue4
 t9 := Tryz.underlying9
 a9 := Tryz.isAgg9
 z9 := Tryz.sizeOf9
 v9 := Tryz.zeroValue9 }
def Tryz.laysb115_ren : Go.Shelf.Ren := ⟨fun | 115 => 131 | n => n, fun | 37 => 29 | 4 => 4 | 9 => 9 | 5 => 5 | n => n, fun | n => n⟩
theorem Tryz.laysb115 : Go.Proofs.Lays.nb115 Tryz.prog Tryz.laysb115_ren := {
 mixed := by kernel_rfl
 f115 := Tryz.func131.trans (congrArg some (by kernel_rfl))
 t4 := Tryz.underlying4
 a4 := Tryz.isAgg4
 z4 := Tryz.sizeOf4
 v4 := Tryz.zeroValue4
 t9 := Tryz.underlying9
 a9 := Tryz.isAgg9
 z9 := Tryz.sizeOf9
 v9 := Tryz.zeroValue9
 t37 := Tryz.underlying29
 a37 := Tryz.isAgg29
 z37 := Tryz.sizeOf29
 v37 := Tryz.zeroValue29
 t5 := Tryz.underlying5
 a5 := Tryz.isAgg5
 z5 := Tryz.sizeOf5
 v5 := Tryz.zeroValue5 }
def Tryz.lays2n26_ren : Go.Shelf.Ren := ⟨fun | 26 => 150 | 33 => 164 | 34 => 165 | 38 => 185 | n => n, fun | 24 => 81 | 9 => 9 | 3 => 3 | 4 => 4 | 40 => 86 | 0 => 0 | n => n, fun | n => n⟩
theorem Tryz.lays2n26 : Go.Proofs.Lays2.n26 Tryz.prog Tryz.lays2n26_ren := {
 mixed := by kernel_rfl
 f26 := Tryz.func150.trans (congrArg some (by kernel_rfl))
 f33 := Tryz.func164.trans (congrArg some (by kernel_rfl))
 f34 := Tryz.func165.trans (congrArg some (by kernel_rfl))
 f38 := Tryz.func185.trans (congrArg some (by kernel_rfl))
 t0 := Tryz.underlying0
 a0 := Tryz.isAgg0
 z0 := Tryz.sizeOf0
 v0 := Tryz.zeroValue0
 t3 := Tryz.underlying3
 a3 := Tryz.isAgg3
 z3 := Tryz.sizeOf3
 v3 := Tryz.zeroValue3
 t4 := Tryz.underlying4
 a4 := Tryz.isAgg4
 z4 := Tryz.sizeOf4
 v4 := Tryz.zeroValue4
 t9 := Tryz.underlying9
 a9 := Tryz.isAgg9
 z9 := Tryz.sizeOf9
 v9 := Tryz.zeroValue9
 t24 := Tryz.underlying81
 a24 := Tryz.isAgg81
 z24 := Tryz.sizeOf81
 v24 := Tryz.zeroValue81
 t40 := Tryz.underlying86
 a40 := Tryz.isAgg86
 z40 := Tryz.sizeOf86
 v40 := Tryz.zeroValue86 }
end Go.Proofs
