/- The disk's New, Fuse, Read, Steps, Used. -/
import Derived.Test.YtikkieaokfailaaGreatDoorDkV
namespace Go.Proofs.YtikkieaokfailaaGreatDoor
open Go.RowKit Go.Joins

theorem steps_any (d : Nat) (F : Nat → Prop) (k : Dk) (w : World) (hDk : DiskAt w F d k) : Calls Tryz.prog 42 #[.pointer (some ⟨d, 0, none⟩)] w fun e w' => e = .returned (.int .i64 (k.steps : Int)) ∧ w' = w := by
  obtain ⟨⟨bm, m, hD, _⟩, _⟩ := hDk
  have q : w.cell? ⟨d, 3, none⟩ = some (.int .i64 (k.steps : Int)) := hD.c3
  clear hD
  go_enter Tryz.func42, Tryz.ntmps42
  go_wp2
  go_ret
  exact ⟨rfl, rfl⟩
theorem used_any (d : Nat) (F : Nat → Prop) (k : Dk) (w : World) (hDk : DiskAt w F d k) : Calls Tryz.prog 43 #[.pointer (some ⟨d, 0, none⟩)] w fun e w' => e = .returned (.int .i64 (used k.fs : Int)) ∧ w' = w := by
  obtain ⟨⟨bm, m, hD, _⟩, _⟩ := hDk
  have q : w.cell? ⟨d, 2, none⟩ = some (.int .i64 (used k.fs : Int)) := hD.c2
  clear hD
  go_enter Tryz.func43, Tryz.ntmps43
  go_wp2
  go_ret
  exact ⟨rfl, rfl⟩

theorem new_bad (room : Int) (h : room < 0 ∨ 16777216 < room) (w : World) : Calls Tryz.prog 14 #[.int .i64 room] w fun e w' => e = .returned (.tuple #[.pointer none, .int .i64 1]) ∧ w' = w := by
  by_cases h1 : room < 0
  · clear h
    go_enter Tryz.func14, Tryz.ntmps14
    go_wp2
    go_ret2
    exact ⟨rfl, rfl⟩
  · have h2 : 16777216 < room := h.resolve_left h1
    clear h
    go_enter Tryz.func14, Tryz.ntmps14
    go_wp2
    go_ret2
    exact ⟨rfl, rfl⟩

theorem newK_good {room : Nat} (h : room ≤ 16777216) : (newK room).Good := ⟨h, trivial, Nat.zero_le _, (fun p hp => by cases hp), (fun n e => by cases e)⟩
theorem new_ok (room : Nat) (h : room ≤ 16777216) (w : World) : Calls Tryz.prog 14 #[.int .i64 (room : Int)] w fun e w' => ∃ d, e = .returned (.tuple #[.pointer (some ⟨d, 0, none⟩), .int .i64 0]) ∧ (∃ F, DiskAt w' F d (newK room) ∧ ∀ i, F i → w.heap.size ≤ i) ∧ Below w.heap.size w w' := by
  have h1 : ¬ (room : Int) < 0 := by omega
  have h2 : ¬ 16777216 < (room : Int) := by omega
  have hmk := fun w : World => run_makeMap (P := Tryz.prog) 99 w
  go_enter Tryz.func14, Tryz.ntmps14
  go_wp2
  go_ret2
  have hB : Below w.heap.size w ((w.alloc (.map #[] 0)).alloc (.cells (rcs (rawK (newK room)) w.heap.size) 101)) := ((Below.refl _ _).alloc (Nat.le_refl _) _).alloc (by simp) _
  refine ⟨w.heap.size + 1, rfl, ⟨fun i => i = w.heap.size ∨ i = w.heap.size + 1, DiskAt.of (bm := w.heap.size) (n := 0) (m := fun _ => none) ⟨?_, ?_⟩ (Or.inl rfl) (fun s => trivial) (fun s t c e g _ h => by cases h) (Or.inr rfl) (fun i hi => ?_) (newK_good h), fun i hi => ?_⟩, hB⟩
  · have := alloc_at (w.alloc (.map #[] 0)) (.cells (rcs (rawK (newK room)) w.heap.size) 101)
    rw [show (w.alloc (.map #[] 0)).heap.size = w.heap.size + 1 by simp] at this
    exact this
  · exact (FMap.made w).keep (S := fun _ => False) ((Keep.refl _ _).alloc _) (fun h => h)
  · have e : ((w.alloc (.map #[] 0)).alloc (.cells (rcs (rawK (newK room)) w.heap.size) 101)).heap.size = w.heap.size + 2 := by simp
    show i < ((w.alloc (.map #[] 0)).alloc (.cells (rcs (rawK (newK room)) w.heap.size) 101)).heap.size
    rw [e]
    omega
  · omega

/-! ### Read -/
theorem read_bad (bd bn br d : Nat) (s : Nm) (en : Nat) (W : World) (hd : W.heap[bd]? = some (.cells #[.pointer (some ⟨d, 0, none⟩)] 36 (0, 0))) (hn : W.heap[bn]? = some (.cells #[.string s] 9 (0, 0)))
    (hF : Calls Tryz.prog 89 #[.pointer (some ⟨d, 0, none⟩), .string s] W fun e w' => e = .panicked (gaveUp en) ∧ Below W.heap.size W w') :
    Calls Tryz.prog 88 #[.pointer (some ⟨bd, 0, none⟩), .pointer (some ⟨bn, 0, none⟩), .pointer (some ⟨br, 0, none⟩)] W fun e w' => e = .panicked (gaveUp en) ∧ Below W.heap.size W w' := by
  have q := box_cell hn
  have q1 := box_cell hd
  clear hn hd
  go_enter Tryz.func88, Tryz.ntmps88
  go_wp2_with (first
    | (go_at_call 89; refine hF.mono ?_; rintro e w1 ⟨rfl, hb1⟩))
  exact ⟨rfl, rfl, hb1⟩

theorem Rd.ofRow {w : World} {B : Nat} {A : Option Addr} {n c : Nat} {xs : List Int} (h : w.ownsRow B 5 1 (.slice A n c) n (bc xs)) (hb : Bd xs) : Rd w A n c xs := by
  obtain ⟨a, c', e, hR⟩ := Rd.ofOwn h hb
  cases e
  exact hR

set_option maxHeartbeats 1000000 in
theorem read_go (bd bn br d : Nat) (F : Nat → Prop) (k : Dk) (s : Nm) (hs : isNm s = true) (f : Fle) (hlk : look k.fs s = some f) (W : World) (hDk : DiskAt W F d k)
    (hn : W.heap[bn]? = some (.cells #[.string s] 9 (0, 0))) (hd : W.heap[bd]? = some (.cells #[.pointer (some ⟨d, 0, none⟩)] 36 (0, 0))) (hr : W.heap[br]? = some (.cells #[.slice none 0 0] 29 (0, 0))) :
    Calls Tryz.prog 88 #[.pointer (some ⟨bd, 0, none⟩), .pointer (some ⟨bn, 0, none⟩), .pointer (some ⟨br, 0, none⟩)] W fun e w' =>
      e = .returned (.tuple #[]) ∧ ∃ v, w'.heap[br]? = some (.cells #[v] 29 (0, 0)) ∧ w'.ownsRow W.heap.size 5 1 v f.b.length (bc f.b) ∧ Keep (fun i => i = br) W w' := by
  have q := box_cell hn
  have q1 := box_cell hd
  have hgood := hDk.good
  have hroom := hgood.room
  have hused := hgood.used
  have hlenO := lenO_used k.fs s
  obtain ⟨_, hsf1, hbd⟩ := look_good hgood hlk
  obtain ⟨⟨bm, m, hD, hbm, ht, ha⟩, fd, lt, _⟩ := hDk
  have htie := ht s
  rw [hlk] at htie
  obtain ⟨⟨a, ln, cp, sf⟩, hm, h1, h2, hown, hFr⟩ := htie.some'
  dsimp only at h1 h2
  subst h1
  subst h2
  rw [hlk] at hlenO
  have hfl2 : f.b.length ≤ used k.fs := hlenO
  have hfind := find_ok d bm _ _ m s hs a _ cp _ hm W hD
  obtain ⟨A, hA⟩ : ∃ A : Option Addr, (a.map fun g => (⟨g, 0, none⟩ : Addr)) = A := ⟨_, rfl⟩
  have hslv : slv (a, f.b.length, cp, (f.safe : Int)) = .slice A f.b.length cp := by unfold slv; rw [hA]
  rw [hA] at hfind
  rw [hslv] at hown
  obtain ⟨ln, hln⟩ : ∃ ln, f.b.length = ln := ⟨_, rfl⟩
  rw [hln] at hfind hown hfl2 ⊢
  have hR : Rd W A ln cp f.b := Rd.ofRow hown hbd
  clear hln hn hd hslv hm htie hlenO
  have hfd : ∀ w, (Instr.field 106 (.agg #[.slice A ln cp, .int .i64 (f.safe : Int)]) 0).run Tryz.prog w = .ok (.slice A ln cp) w := fun w => by simp [Instr.field, go_sem, asAgg]
  go_enter Tryz.func88, Tryz.ntmps88
  go_wp2_with (first
    | (go_at_call 89; refine hfind.mono ?_; rintro e w1 ⟨rfl, hb1⟩)
    | (go_at_call 66; refine (bcloneO A ln cp f.b w1 (hR.carry (Nat.le_refl _) hb1) (by omega)).mono ?_; rintro e w2 ⟨v, rfl, hown2, hb2⟩; obtain ⟨a5, cp5, rfl, hob5⟩ := own_form hown2; have hb3 := hb1.trans (hb2.mono hb1.size); have hr3 := box_below hr hb3; have q3 := box_cell hr3; have z3 := unfrozen_of_block hr3 0))
  go_end0
  have hrl := (Array.getElem?_eq_some_iff.1 hr).1
  refine ⟨rfl, _, block_setCell (i := 0) hr3 _, own_weak (own_keep hown2 ((Keep.refl (fun i => i = br) w2).setCell (p := ⟨br, 0, none⟩) rfl _) (fun g hg e => ?_)) hb1.size, ((Keep.ofBelow (S := fun i => i = br) hb3).setCell (p := ⟨br, 0, none⟩) rfl _)⟩
  have h1 := (hown2.lt g hg).1
  have h2 := hb1.size
  omega

theorem readK_cases (k : Dk) (on : k.off = false) (s : Nm) :
    (∃ en, ((isNm s = false ∧ en = 4) ∨ (isNm s = true ∧ look k.fs s = none ∧ en = 7)) ∧ en ≠ 0 ∧ readK k s = (en, [])) ∨
    (∃ f, isNm s = true ∧ look k.fs s = some f ∧ readK k s = (0, f.b)) := by
  unfold readK
  rw [if_neg (by rw [on]; decide)]
  by_cases h1 : isNm s = false
  · exact Or.inl ⟨4, Or.inl ⟨h1, rfl⟩, by decide, by rw [if_pos h1]⟩
  · have h1' : isNm s = true := by simpa using h1
    rw [if_neg h1]
    cases h2 : look k.fs s with
    | none => exact Or.inl ⟨7, Or.inr ⟨h1', rfl, rfl⟩, by decide, rfl⟩
    | some f => exact Or.inr ⟨f, h1', rfl, rfl⟩

set_option maxHeartbeats 1000000 in
theorem read_any (d : Nat) (F : Nat → Prop) (k : Dk) (s : Nm) (w : World) (hDk : DiskAt w F d k) :
    Calls Tryz.prog 38 #[.pointer (some ⟨d, 0, none⟩), .string s] w fun e w' => ∃ v, e = .returned (.tuple #[v, .int .i64 (readK k s).1]) ∧ w'.ownsRow w.heap.size 5 1 v (readK k s).2.length (bc (readK k s).2) ∧ Below w.heap.size w w' := by
  have hmf : ∀ (fn : Fn) (first cap : Array Value) (w : World), (Instr.makeFunc fn first cap).run Tryz.prog w = .ok (.func fn first cap) w := fun _ _ _ _ => rfl
  obtain ⟨W, hW⟩ : ∃ W, ((w.alloc (.cells #[.pointer (some ⟨d, 0, none⟩)] 36)).alloc (.cells #[.string s] 9)).alloc (.cells #[.slice none 0 0] 29) = W := ⟨_, rfl⟩
  have hB : Below w.heap.size w W := by rw [← hW]; exact (((Below.refl _ _).alloc (Nat.le_refl _) _).alloc (by simp) _).alloc (by simp; omega) _
  have b0 : W.heap[w.heap.size]? = some (.cells #[.pointer (some ⟨d, 0, none⟩)] 36 (0, 0)) := by rw [← hW]; exact alloc3_at w _ _ _
  have b1 : W.heap[w.heap.size + 1]? = some (.cells #[.string s] 9 (0, 0)) := by rw [← hW]; exact (by simpa using alloc2_at (w.alloc (.cells #[.pointer (some ⟨d, 0, none⟩)] 36)) (.cells #[.string s] 9) (.cells #[.slice none 0 0] 29))
  have b2 : W.heap[w.heap.size + 1 + 1]? = some (.cells #[.slice none 0 0] 29 (0, 0)) := by rw [← hW]; exact (by simpa using alloc_at ((w.alloc (.cells #[.pointer (some ⟨d, 0, none⟩)] 36)).alloc (.cells #[.string s] 9)) (.cells #[.slice none 0 0] 29))
  have hDW := hDk.below hB
  have hA : Calls Tryz.prog 48 #[.pointer (some ⟨d, 0, none⟩), .func (.func 88) #[] #[.pointer (some ⟨w.heap.size, 0, none⟩), .pointer (some ⟨w.heap.size + 1, 0, none⟩), .pointer (some ⟨w.heap.size + 1 + 1, 0, none⟩)]] W fun e w' => e = .returned (.int .i64 (readK k s).1) ∧ ∃ v, w'.heap[w.heap.size + 1 + 1]? = some (.cells #[v] 29 (0, 0)) ∧ w'.ownsRow W.heap.size 5 1 v (readK k s).2.length (bc (readK k s).2) ∧ Keep (fun i => i = w.heap.size + 1 + 1) W w' := by
    have hc4 : W.cell? ⟨d, 4, none⟩ = some (.bool k.off) := by
      obtain ⟨⟨bm, m, h, _⟩, _⟩ := hDW
      exact h.c4
    have hnil : ∀ w', Below W.heap.size W w' → ∃ v, w'.heap[w.heap.size + 1 + 1]? = some (.cells #[v] 29 (0, 0)) ∧ w'.ownsRow W.heap.size 5 1 v ([] : List Int).length (bc []) ∧ Keep (fun i => i = w.heap.size + 1 + 1) W w' := fun w' hb => ⟨_, box_below b2 hb, ⟨rfl, Or.inl ⟨rfl, rfl⟩⟩, Keep.ofBelow hb⟩
    cases on : k.off with
    | true =>
      have e : readK k s = (13, []) := by unfold readK; rw [on]; rfl
      rw [e]
      rw [on] at hc4
      refine (attempt_down d _ _ W hc4).mono ?_
      rintro e w' ⟨rfl, hb⟩
      exact ⟨rfl, hnil w' hb⟩
    | false =>
      rw [on] at hc4
      have hb1 : Below W.heap.size W (W.alloc (.cells #[.int .i64 0] 37)) := (Below.refl _ _).alloc (Nat.le_refl _) _
      have hD1 := hDW.below hb1
      have g0 := box_below b0 hb1
      have g1 := box_below b1 hb1
      have g2 := box_below b2 hb1
      have ge := alloc_at W (.cells #[.int .i64 0] 37)
      have hWs : w.heap.size + 1 + 1 < W.heap.size := (Array.getElem?_eq_some_iff.1 b2).1
      have hVs : (W.alloc (.cells #[.int .i64 0] 37)).heap.size = W.heap.size + 1 := by simp
      rcases readK_cases k on s with ⟨en, hen, hne, e⟩ | ⟨f, hs, hlk, e⟩
      · rw [e]
        refine (attempt_go d _ _ en (fun w' => Below W.heap.size W w') W (enters_of Tryz.func88 (by kernel_rfl) rfl) hc4 ((read_bad _ _ _ d s en _ g0 g1 (find_bad d F k s _ hD1 en hen)).mono ?_)).mono ?_
        · rintro e w' ⟨rfl, hbe⟩
          exact ⟨gv_no hne rfl, hb1.trans (hbe.mono hb1.size), box_below ge hbe⟩
        · rintro e w' ⟨rfl, w1, hb, rfl⟩
          exact ⟨rfl, hnil _ (hb.setCell (p := ⟨W.heap.size, 0, none⟩) (Nat.le_refl _) _)⟩
      · rw [e]
        refine (attempt_go d _ _ 0 (fun w' => ∃ v, w'.heap[w.heap.size + 1 + 1]? = some (.cells #[v] 29 (0, 0)) ∧ w'.ownsRow (W.heap.size + 1) 5 1 v f.b.length (bc f.b) ∧ Keep (fun i => i = w.heap.size + 1 + 1) W w') W (enters_of Tryz.func88 (by kernel_rfl) rfl) hc4 ((read_go _ _ _ d F k s hs f hlk _ hD1 g1 g0 g2).mono ?_)).mono ?_
        · rintro e w' ⟨rfl, v, hv, ho, hk⟩
          rw [hVs] at ho
          exact ⟨Or.inl ⟨rfl, rfl⟩, ⟨v, hv, ho, (Keep.ofBelow hb1).trans hk⟩, box_keep ge hk (by omega)⟩
        · rintro e w' ⟨rfl, w1, ⟨v, hv, ho, hk⟩, rfl⟩
          have hk2 : Keep (fun i => i = W.heap.size) w1 (w1.setCell ⟨W.heap.size, 0, none⟩ (.int .i64 ((0 : Nat) : Int))) := (Keep.refl (fun i => i = W.heap.size) w1).setCell (p := ⟨W.heap.size, 0, none⟩) rfl _
          exact ⟨rfl, v, box_keep hv hk2 (by omega), own_weak (own_keep ho hk2 (fun g hg e => by have := (ho.lt g hg).1; omega)) (by omega), hk.setNew (Nat.le_refl _) _⟩
  have c0 := box_cell b0
  have hWs : w.heap.size + 1 + 1 < W.heap.size := (Array.getElem?_eq_some_iff.1 b2).1
  clear hDW
  obtain ⟨P, hP⟩ : ∃ P, readK k s = P := ⟨_, rfl⟩
  rw [hP] at hA ⊢
  clear hP
  obtain ⟨en, xs⟩ := P
  dsimp only at hA ⊢
  go_enter Tryz.func38, Tryz.ntmps38
  go_upto_region 2 with (first
    | (go_at_call 48; refine hA.mono ?_; rintro e w1 ⟨rfl, v, hv, ho, hk⟩; obtain ⟨a5, cp5, rfl, hob5⟩ := own_form ho; have q2 := box_cell hv; have z2 := unfrozen_of_block hv 0))
  clear hW hA c0
  have hv2 := block_setCell (i := 0) hv (.slice (a5.map fun g => ⟨g, 0, none⟩) xs.length cp5)
  have q3 := cell_of_block hv2 0
  simp at q3
  obtain ⟨A5, hA5⟩ : ∃ A5 : Option Addr, (a5.map fun g => (⟨g, 0, none⟩ : Addr)) = A5 := ⟨_, rfl⟩
  obtain ⟨ln, hln⟩ : ∃ ln, xs.length = ln := ⟨_, rfl⟩
  have HLN : Hid (xs.length = ln) := hln
  rw [hA5, hln] at q2 q3 ho
  clear hv2 hln hA5 hob5
  go_wp2
  have hk2 : Keep (fun i => i = w.heap.size + 1 + 1) w1 (w1.setCell ⟨w.heap.size + 1 + 1, 0, none⟩ (.slice A5 ln cp5)) := (Keep.refl (fun i => i = w.heap.size + 1 + 1) w1).setCell (p := ⟨w.heap.size + 1 + 1, 0, none⟩) rfl _
  refine bodyPost_ret (v := .tuple #[.slice A5 ln cp5, .int .i64 (en : Int)]) (by simp [results, Tryz.results38, go_sem, q3]) rfl ⟨_, rfl, ?_, ?_⟩
  · rw [HLN.out]
    exact own_weak (own_keep ho hk2 (fun g hg e => by have := (ho.lt g hg).1; omega)) hB.size
  exact hB.trans ((hk.trans hk2).below hB.size (fun i hi => by omega))

/-! ### Fuse -/
theorem fuseC_any (bn bd d : Nat) (F : Nat → Prop) (k : Dk) (n : Int) (h0 : 0 ≤ n) (h1 : n ≤ 9223372036854775807) (W : World) (hDk : DiskAt W F d k)
    (hn : W.heap[bn]? = some (.cells #[.int .i64 n] 3 (0, 0))) (hd : W.heap[bd]? = some (.cells #[.pointer (some ⟨d, 0, none⟩)] 36 (0, 0))) :
    Calls Tryz.prog 62 #[.pointer (some ⟨bn, 0, none⟩), .pointer (some ⟨bd, 0, none⟩)] W fun e w' => Gv 0 e ∧ Dp W F d { k with fu := some n.toNat } w' := by
  have q := box_cell hn
  have q1 := box_cell hd
  have hgood := hDk.good
  obtain ⟨⟨bm, m, hD, hbm, ht, ha⟩, fd, lt, _⟩ := hDk
  have q5 := hD.c5
  have z5 := hD.fz 5
  have hD1 := hD.set 5 (.bool true) { rawK k with fused := true } rfl
  have q6 := hD1.c6
  have z6 := hD1.fz 6
  have hk1 := hD.setK 5 (.bool true)
  have hD2 := hD1.set 6 (.int .i64 n) { rawK k with fused := true, left := n } rfl
  have hk2 := hk1.trans (hD1.setK 6 (.int .i64 n))
  have hraw : rawK { k with fu := some n.toNat } = { rawK k with fused := true, left := n } := by
    unfold rawK
    congr 1
    simp
    omega
  go_enter Tryz.func62, Tryz.ntmps62
  go_wp2
  go_end0
  obtain ⟨x1, _, x3⟩ := DiskAt.cells (k1 := { k with fu := some n.toNat }) hbm ht ha fd lt hD.blk hk2 (by rw [hraw]; exact hD2) rfl ⟨hgood.room, hgood.rise, hgood.used, hgood.each, fun j e => by simp at e; omega⟩
  exact ⟨Or.inl ⟨rfl, rfl⟩, F, x1, x3, fun _ h => Or.inl h⟩

set_option maxHeartbeats 1000000 in
theorem fuse_any (d : Nat) (F : Nat → Prop) (k : Dk) (n : Int) (h1 : n ≤ 9223372036854775807) (w : World) (hDk : DiskAt w F d k) :
    Calls Tryz.prog 21 #[.pointer (some ⟨d, 0, none⟩), .int .i64 n] w fun e w' => e = .returned (.int .i64 (fuseK k n).1) ∧ Dp w F d (fuseK k n).2 w' := by
  have hmf : ∀ (fn : Fn) (first cap : Array Value) (w : World), (Instr.makeFunc fn first cap).run Tryz.prog w = .ok (.func fn first cap) w := fun _ _ _ _ => rfl
  obtain ⟨W, hW⟩ : ∃ W, (w.alloc (.cells #[.pointer (some ⟨d, 0, none⟩)] 36)).alloc (.cells #[.int .i64 n] 3) = W := ⟨_, rfl⟩
  have hB : Below w.heap.size w W := by rw [← hW]; exact ((Below.refl _ _).alloc (Nat.le_refl _) _).alloc (by simp) _
  have b0 : W.heap[w.heap.size]? = some (.cells #[.pointer (some ⟨d, 0, none⟩)] 36 (0, 0)) := by rw [← hW]; exact alloc2_at w _ _
  have b1 : W.heap[w.heap.size + 1]? = some (.cells #[.int .i64 n] 3 (0, 0)) := by rw [← hW]; exact (by simpa using alloc_at (w.alloc (.cells #[.pointer (some ⟨d, 0, none⟩)] 36)) (.cells #[.int .i64 n] 3))
  have hDW := hDk.below hB
  have hlt := hDk.lt
  have c0 := box_cell b0
  have c1 := box_cell b1
  by_cases hneg : n < 0
  · have e : fuseK k n = (1, k) := by unfold fuseK; rw [if_pos hneg]
    rw [e]
    go_enter Tryz.func21, Tryz.ntmps21
    go_upto_region 1 with fail
    clear hW
    go_wp2
    go_ret
    exact ⟨rfl, Dp.from hB (Dp.refl hDW)⟩
  · have hA : Calls Tryz.prog 48 #[.pointer (some ⟨d, 0, none⟩), .func (.func 62) #[] #[.pointer (some ⟨w.heap.size + 1, 0, none⟩), .pointer (some ⟨w.heap.size, 0, none⟩)]] W fun e w' => e = .returned (.int .i64 (fuseK k n).1) ∧ Dp W F d (fuseK k n).2 w' := by
      cases on : k.off with
      | true =>
        have e : fuseK k n = (13, k) := by unfold fuseK; rw [if_neg hneg, on]; rfl
        rw [e]
        exact attempt_off d _ _ F k W hDW on
      | false =>
        have e : fuseK k n = (0, { k with fu := some n.toNat }) := by unfold fuseK; rw [if_neg hneg, on]; rfl
        rw [e]
        refine attempt_D d _ _ F k _ _ W (enters_of Tryz.func62 (by kernel_rfl) rfl) hDW on (fun hD1 hb1 => ?_)
        exact fuseC_any _ _ d F k n (by omega) h1 _ hD1 (box_below b1 hb1) (box_below b0 hb1)
    clear hDW
    obtain ⟨P, hP⟩ : ∃ P, fuseK k n = P := ⟨_, rfl⟩
    rw [hP] at hA ⊢
    clear hP
    go_enter Tryz.func21, Tryz.ntmps21
    go_upto_region 1 with fail
    clear hW
    go_wp2_with (first
      | (go_at_call 48; refine hA.mono ?_; rintro e w1 ⟨rfl, hDp⟩))
    go_ret
    exact ⟨rfl, Dp.from hB hDp⟩

end Go.Proofs.YtikkieaokfailaaGreatDoor
