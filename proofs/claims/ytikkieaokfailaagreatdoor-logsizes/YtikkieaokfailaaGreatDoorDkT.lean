/- The disk's Append. -/
import Derived.Test.YtikkieaokfailaaGreatDoorDkS
namespace Go.Proofs.YtikkieaokfailaaGreatDoor
open Go.RowKit Go.Joins

theorem Dp.next {w w1 w2 : World} {F F1 : Nat → Prop} {d : Nat} {k2 : Dk} (kp1 : Keep F w w1) (e1 : ∀ i, F1 i → F i ∨ w.heap.size ≤ i) (h : Dp w1 F1 d k2 w2) : Dp w F d k2 w2 := by
  obtain ⟨F2, h2, kp2, e2⟩ := h
  refine ⟨F2, h2, kp1.andThen kp2 (fun i hi hF => (e1 i hF).elim id (fun h => absurd h (by omega))), fun i hi => ?_⟩
  rcases e2 i hi with h | h
  · exact e1 i h
  · exact Or.inr (Nat.le_trans kp1.size h)

theorem good_put {k : Dk} (hg : k.Good) {s : Nm} (hs : isNm s = true) {f : Fle} (h1 : f.safe ≤ f.b.length) (h2 : Bd f.b) (hu : used (putL k.fs s f) ≤ k.room) : ({ k with fs := putL k.fs s f } : Dk).Good :=
  ⟨hg.room, rise_put hg.rise s f, hu, fun p hp => by
    rcases mem_put hp with rfl | hp
    · exact ⟨hs, h1, h2⟩
    · exact hg.each p hp, hg.fu⟩
theorem good_drop {k : Dk} (hg : k.Good) (s : Nm) : ({ k with fs := dropL k.fs s } : Dk).Good :=
  ⟨hg.room, rise_drop hg.rise s, by have := used_drop k.fs hg.rise s; have := hg.used; show used (dropL k.fs s) ≤ k.room; omega, fun p hp => hg.each p (mem_drop hp), hg.fu⟩
theorem good_pass {k : Dk} (hg : k.Good) : (passK k).2.Good := by
  unfold passK
  cases h : k.fu with
  | none => exact ⟨hg.room, hg.rise, hg.used, hg.each, fun n e => by simp at e⟩
  | some n =>
    have hn := hg.fu n h
    cases n with
    | zero => exact ⟨hg.room, hg.rise, hg.used, hg.each, fun n e => by simp at e; omega⟩
    | succ n => exact ⟨hg.room, hg.rise, hg.used, hg.each, fun n' e => by simp at e; omega⟩
theorem pass_fs (k : Dk) : (passK k).2.fs = k.fs := by
  unfold passK
  split <;> rfl
theorem pass_steps (k : Dk) : (passK k).2.steps ≤ k.steps + 1 := by
  unfold passK
  split <;> simp

theorem pass_R (w : World) (d bm n : Nat) (k : Dk) (m : Nm → Option FV) (hD : DR w d bm n (rawK k) m) (hg : k.Good) (on : k.off = false) (hs : k.steps < 1000000) :
    Calls Tryz.prog 53 #[.pointer (some ⟨d, 0, none⟩)] w fun e w' => Gv (passK k).1 e ∧ DR w' d bm n (rawK (passK k).2) m ∧ Keep (fun i => i = d) w w' := by
  cases hf : k.fu with
  | none =>
    have e : passK k = (0, { k with steps := k.steps + 1 }) := by unfold passK; rw [hf]
    rw [e]
    refine (pass_free w d bm _ _ m hD (by simp [rawK, hf]) (by simp [rawK]) (by simp [rawK]; omega)).mono ?_
    rintro e w' ⟨rfl, hD1, hk1⟩
    refine ⟨Or.inl ⟨rfl, rfl⟩, ?_, hk1⟩
    have : rawK { k with steps := k.steps + 1 } = { rawK k with steps := (rawK k).steps + 1 } := by simp [rawK]
    rw [this]
    exact hD1
  | some n =>
    cases n with
    | zero =>
      have e : passK k = (13, { k with off := true }) := by unfold passK; rw [hf]
      rw [e]
      refine (pass_no w d bm _ _ m hD (by simp [rawK, hf]) (by simp [rawK, hf])).mono ?_
      rintro e w' ⟨rfl, hD1, hk1⟩
      exact ⟨Or.inr ⟨by simp, rfl⟩, hD1, hk1⟩
    | succ n =>
      have e : passK k = (0, { k with steps := k.steps + 1, fu := some n }) := by unfold passK; rw [hf]
      have hn := hg.fu _ hf
      rw [e]
      refine (pass_yes w d bm _ _ m hD (by simp [rawK, hf]) (by simp [rawK, hf]) (by simp [rawK, hf]; omega) (by simp [rawK]) (by simp [rawK]; omega)).mono ?_
      rintro e w' ⟨rfl, hD1, hk1⟩
      refine ⟨Or.inl ⟨rfl, rfl⟩, ?_, hk1⟩
      have : rawK { k with steps := k.steps + 1, fu := some n } = { rawK k with down := false, left := (rawK k).left - 1, steps := (rawK k).steps + 1 } := by simp [rawK, hf, on]
      rw [this]
      exact hD1
theorem pass_D (w : World) (F : Nat → Prop) (d : Nat) (k : Dk) (h : DiskAt w F d k) (on : k.off = false) (hs : k.steps < 1000000) :
    Calls Tryz.prog 53 #[.pointer (some ⟨d, 0, none⟩)] w fun e w' => Gv (passK k).1 e ∧ Dp w F d (passK k).2 w' := by
  obtain ⟨⟨bm, m, hD, hbm, ht, ha⟩, fd, lt, hg⟩ := h
  refine (pass_R w d bm _ k m hD hg on hs).mono ?_
  rintro e w' ⟨h1, h2, h3⟩
  obtain ⟨x1, _, x3⟩ := DiskAt.cells hbm ht ha fd lt hD.blk h3 h2 (pass_fs k) (good_pass hg)
  exact ⟨h1, F, x1, x3, fun _ h => Or.inl h⟩

/-- A file that is there or not, as it lies in the map. -/
theorem Tie.old {w : World} {F : Nat → Prop} {o : Option FV} {f : Option Fle} (h : Tie w F o f) : ∃ g l c s, o.getD fv0 = (g, l, c, s) ∧ l = ((f.map Fle.b).getD []).length ∧ s = (((f.map Fle.safe).getD 0 : Nat) : Int) ∧ w.ownsRow 0 5 1 (slv (g, l, c, s)) l (bc ((f.map Fle.b).getD [])) ∧ (∀ x, g = some x → ∃ c0, o = some c0 ∧ c0.1 = some x) := by
  cases o <;> cases f
  · exact ⟨none, 0, 0, 0, rfl, rfl, rfl, ⟨rfl, Or.inl ⟨rfl, rfl⟩⟩, fun x e => by cases e⟩
  · exact h.elim
  · exact h.elim
  · rename_i c f
    obtain ⟨g, l, cp, s⟩ := c
    obtain ⟨h1, h2, h3, h4⟩ := h
    dsimp only at h1 h2
    subst h2
    exact ⟨g, _, cp, s, rfl, rfl, h1, h3, fun x e => ⟨_, rfl, e⟩⟩
theorem own_form {w : World} {B : Nat} {v : Value} {n : Nat} {xs : List Value} (h : w.ownsRow B 5 1 v n xs) : ∃ (a : Option Nat) (cp : Nat), v = .slice (a.map fun g => ⟨g, 0, none⟩) n cp ∧ v.ownBlock = a := by
  rcases h.2 with ⟨rfl, rfl⟩ | ⟨g, cap, cur, rfl, _⟩
  · exact ⟨none, 0, rfl, rfl⟩
  · exact ⟨some g, cap, rfl, rfl⟩

theorem own_formS {w : World} {B : Nat} {v : Value} {n : Nat} {xs : List Value} (h : w.ownsRow B 9 1 v n xs) : ∃ (a : Option Nat) (cp : Nat), v = .slice (a.map fun g => ⟨g, 0, none⟩) n cp ∧ v.ownBlock = a := by
  rcases h.2 with ⟨rfl, rfl⟩ | ⟨g, cap, cur, rfl, _⟩
  · exact ⟨none, 0, rfl, rfl⟩
  · exact ⟨some g, cap, rfl, rfl⟩

theorem app_name (bn bb bd : Nat) (s : Nm) (hs : isNm s = false) (W : World) (hn : W.heap[bn]? = some (.cells #[.string s] 9 (0, 0))) :
    Calls Tryz.prog 49 #[.pointer (some ⟨bn, 0, none⟩), .pointer (some ⟨bb, 0, none⟩), .pointer (some ⟨bd, 0, none⟩)] W fun e w' => e = .panicked (gaveUp 4) ∧ Below W.heap.size W w' := by
  have hN := fun w => isName_any s w
  rw [hs] at hN
  have q := box_cell hn
  clear hn
  go_enter Tryz.func49, Tryz.ntmps49
  go_wp2_with (first
    | (go_at_call 51; refine (hN _).mono ?_; rintro e w1 ⟨rfl, hb1⟩)
    | (go_at_call 50; refine (ask_no 4 _).mono ?_; rintro e w2 ⟨rfl, rfl⟩))
  exact ⟨rfl, rfl, hb1⟩

set_option maxRecDepth 100000 in
set_option maxHeartbeats 2000000 in
theorem app_full (bn bb bd d : Nat) (F : Nat → Prop) (k : Dk) (s : Nm) (hs : isNm s = true) (a : Option Addr) (n c : Nat) (hfit : ¬ (n + used k.fs ≤ k.room)) (hn9 : n ≤ 1000000000) (W : World) (hDk : DiskAt W F d k) (hn : W.heap[bn]? = some (.cells #[.string s] 9 (0, 0))) (hb : W.heap[bb]? = some (.cells #[.slice a n c] 29 (0, 0))) (hd : W.heap[bd]? = some (.cells #[.pointer (some ⟨d, 0, none⟩)] 36 (0, 0))) :
    Calls Tryz.prog 49 #[.pointer (some ⟨bn, 0, none⟩), .pointer (some ⟨bb, 0, none⟩), .pointer (some ⟨bd, 0, none⟩)] W fun e w' => e = .panicked (gaveUp 8) ∧ Below W.heap.size W w' := by
  have hN := fun w => isName_any s w
  rw [hs] at hN
  have q := box_cell hn
  have hgood := hDk.good
  have hroom := hgood.room
  have hused := hgood.used
  obtain ⟨⟨bm, m, hD, _, _, _⟩, _, _, _⟩ := hDk
  clear hn
  go_enter Tryz.func49, Tryz.ntmps49
  go_upto_region 1 with (first
    | (go_at_call 51; refine (hN _).mono ?_; rintro e w1 ⟨rfl, hb1⟩)
    | (go_at_call 50; refine (ask_ok _ _).mono ?_; rintro e w2 ⟨rfl, rfl⟩))
  have hD2 := hD.below hb1
  have q0 : w2.drew.cell? ⟨d, 0, none⟩ = some (.int .i64 (k.room : Int)) := hD2.c0
  have q2 : w2.drew.cell? ⟨d, 2, none⟩ = some (.int .i64 (used k.fs : Int)) := hD2.c2
  have qb0 : w2.cell? ⟨bb, 0, none⟩ = some (.slice a n c) := box_cell (box_below hb hb1)
  have qb : w2.drew.cell? ⟨bb, 0, none⟩ = some (.slice a n c) := qb0
  have qd0 : w2.cell? ⟨bd, 0, none⟩ = some (.pointer (some ⟨d, 0, none⟩)) := box_cell (box_below hd hb1)
  have qd : w2.drew.cell? ⟨bd, 0, none⟩ = some (.pointer (some ⟨d, 0, none⟩)) := qd0
  clear qb0 qd0
  have hbe : Below W.heap.size W w2.drew := hb1.drew
  have hw1 : IntKind.i64.wrap ((k.room : Int) - (used k.fs : Int)) = (k.room : Int) - (used k.fs : Int) := by rw [IntKind.wrap_i64]; omega
  have hlt : decide ((n : Int) ≤ (k.room : Int) - (used k.fs : Int)) = false := by simp; omega
  have hlen1 := fun w => len_slice a n c 29 3 w Tryz.underlying29
  clear hD hD2 hb hd hfit hN
  refine wp_region_lx (fun w' => w' = w2.drew) [] 13 (by kernel_rfl) (by kernel_rfl) ?_
  generalize w2.drew = X at *
  have HS0 : X = X := rfl
  refine lx_rd 0 (.slice a n c) (by kernel_rfl) (fun _ _ d _ _ h => by cases d <;> exact h) (by kernel_rfl) HS0 rfl rfl rfl (fun w' hS => ?hA0) ?_
  case hA0 => subst hS; first | (go_simp; rfl) | go_simp
  simp only [List.setIfInBounds_toArray, List.set_cons_zero, List.set_cons_succ]
  refine lx_rd 1 (.int .i64 n) (by kernel_rfl) (fun _ _ d _ _ h => by cases d <;> exact h) (by kernel_rfl) HS0 rfl rfl rfl (fun w' hS => ?hA1) ?_
  case hA1 => subst hS; first | (go_simp; rfl) | go_simp
  simp only [List.setIfInBounds_toArray, List.set_cons_zero, List.set_cons_succ]
  refine lx_rd 2 (.pointer (some ⟨d, 0, none⟩)) (by kernel_rfl) (fun _ _ d _ _ h => by cases d <;> exact h) (by kernel_rfl) HS0 rfl rfl rfl (fun w' hS => ?hA2) ?_
  case hA2 => subst hS; first | (go_simp; rfl) | go_simp
  simp only [List.setIfInBounds_toArray, List.set_cons_zero, List.set_cons_succ]
  refine lx_rd 3 ?vA3 (by kernel_rfl) (fun _ _ d _ _ h => by cases d <;> exact h) (by kernel_rfl) HS0 rfl rfl rfl (fun w' hS => ?hA3) ?_
  case hA3 => first | (go_simp; rfl) | go_simp
  simp only [List.setIfInBounds_toArray, List.set_cons_zero, List.set_cons_succ]
  refine lx_rd 4 ?vA4 (by kernel_rfl) (fun _ _ d _ _ h => by cases d <;> exact h) (by kernel_rfl) HS0 rfl rfl rfl (fun w' hS => ?hA4) ?_
  case hA4 => first | (go_simp; rfl) | go_simp
  simp only [List.setIfInBounds_toArray, List.set_cons_zero, List.set_cons_succ]
  refine lx_rd 5 (.int .i64 k.room) (by kernel_rfl) (fun _ _ d _ _ h => by cases d <;> exact h) (by kernel_rfl) HS0 rfl rfl rfl (fun w' hS => ?hA5) ?_
  case hA5 => subst hS; first | (go_simp; rfl) | go_simp
  simp only [List.setIfInBounds_toArray, List.set_cons_zero, List.set_cons_succ]
  refine lx_rd 6 (.pointer (some ⟨d, 0, none⟩)) (by kernel_rfl) (fun _ _ d _ _ h => by cases d <;> exact h) (by kernel_rfl) HS0 rfl rfl rfl (fun w' hS => ?hA6) ?_
  case hA6 => subst hS; first | (go_simp; rfl) | go_simp
  simp only [List.setIfInBounds_toArray, List.set_cons_zero, List.set_cons_succ]
  refine lx_rd 7 ?vA7 (by kernel_rfl) (fun _ _ d _ _ h => by cases d <;> exact h) (by kernel_rfl) HS0 rfl rfl rfl (fun w' hS => ?hA7) ?_
  case hA7 => first | (go_simp; rfl) | go_simp
  simp only [List.setIfInBounds_toArray, List.set_cons_zero, List.set_cons_succ]
  refine lx_rd 8 ?vA8 (by kernel_rfl) (fun _ _ d _ _ h => by cases d <;> exact h) (by kernel_rfl) HS0 rfl rfl rfl (fun w' hS => ?hA8) ?_
  case hA8 => first | (go_simp; rfl) | go_simp
  simp only [List.setIfInBounds_toArray, List.set_cons_zero, List.set_cons_succ]
  refine lx_rd 9 (.int .i64 (used k.fs)) (by kernel_rfl) (fun _ _ d _ _ h => by cases d <;> exact h) (by kernel_rfl) HS0 rfl rfl rfl (fun w' hS => ?hA9) ?_
  case hA9 => subst hS; first | (go_simp; rfl) | go_simp
  simp only [List.setIfInBounds_toArray, List.set_cons_zero, List.set_cons_succ]
  refine lx_rd 10 (.int .i64 ((k.room : Int) - used k.fs)) (by kernel_rfl) (fun _ _ d _ _ h => by cases d <;> exact h) (by kernel_rfl) HS0 rfl rfl rfl (fun w' hS => ?hA10) ?_
  case hA10 => subst hS; first | (go_simp; rfl) | go_simp
  simp only [List.setIfInBounds_toArray, List.set_cons_zero, List.set_cons_succ]
  refine lx_rd 11 (.bool false) (by kernel_rfl) (fun _ _ d _ _ h => by cases d <;> exact h) (by kernel_rfl) HS0 rfl rfl rfl (fun w' hS => ?hA11) ?_
  case hA11 => subst hS; first | (go_simp; rfl) | go_simp
  simp only [List.setIfInBounds_toArray, List.set_cons_zero, List.set_cons_succ]
  refine lx_one 12 (by kernel_rfl) (stepT_callP 50 ?aR5 rfl rfl rfl ?rR5 ?_)
  case rR5 => first | (go_simp; rfl) | go_simp
  refine (ask_no 8 _).mono ?_
  rintro e w3 ⟨rfl, rfl⟩
  exact Or.inr ⟨_, rfl, rfl, rfl, hbe⟩

set_option maxRecDepth 100000 in
set_option maxHeartbeats 4000000 in
theorem app_go (bn bb bd d : Nat) (F : Nat → Prop) (k : Dk) (on : k.off = false) (s : Nm) (hs : isNm s = true) (a : Option Addr) (n c : Nat) (ys : List Int) (hfit : n + used k.fs ≤ k.room) (hst : k.steps < 1000000) (hfl : k.fs.length < 1000000) (W : World) (hDk : DiskAt W F d k)
    (hn : W.heap[bn]? = some (.cells #[.string s] 9 (0, 0))) (hb : W.heap[bb]? = some (.cells #[.slice a n c] 29 (0, 0))) (hd : W.heap[bd]? = some (.cells #[.pointer (some ⟨d, 0, none⟩)] 36 (0, 0))) (hFn : ¬ F bn) (hFd : ¬ F bd) (hR : Rd W a n c ys) :
    Calls Tryz.prog 49 #[.pointer (some ⟨bn, 0, none⟩), .pointer (some ⟨bb, 0, none⟩), .pointer (some ⟨bd, 0, none⟩)] W fun e w' =>
      Gv (passK { k with fs := putL k.fs s ⟨((look k.fs s).map Fle.b).getD [] ++ ys, ((look k.fs s).map Fle.safe).getD 0⟩ }).1 e ∧ Dp W F d (passK { k with fs := putL k.fs s ⟨((look k.fs s).map Fle.b).getD [] ++ ys, ((look k.fs s).map Fle.safe).getD 0⟩ }).2 w' := by
  have hN := fun w => isName_any s w
  rw [hs] at hN
  have hmax : s.size ≤ maxLen := by have := isNm_size hs; unfold maxLen; omega
  have hsz64 := isNm_size hs
  have q := box_cell hn
  have hgood := hDk.good
  have hroom := hgood.room
  have hused := hgood.used
  have hlenO := lenO_used k.fs s
  have hput := used_put k.fs hgood.rise s ⟨((look k.fs s).map Fle.b).getD [] ++ ys, ((look k.fs s).map Fle.safe).getD 0⟩
  have hsafe : ((look k.fs s).map Fle.safe).getD 0 ≤ ((look k.fs s).map Fle.b |>.getD []).length ∧ Bd (((look k.fs s).map Fle.b).getD []) ∧ (((look k.fs s).map Fle.b).getD []).length = lenO (look k.fs s) := by
    cases hlk : look k.fs s with
    | none => exact ⟨Nat.le_refl _, Bd.nil, rfl⟩
    | some f => exact ⟨(look_good hgood hlk).2.1, (look_good hgood hlk).2.2, rfl⟩
  obtain ⟨hs1, hs2, hs3⟩ := hsafe
  obtain ⟨⟨bm, m, hD, hbm, ht, ha⟩, fd, lt, _⟩ := hDk
  obtain ⟨g0, l0, c0, s0, hold, hl0, hs0, hown, hblk⟩ := (ht s).old
  obtain ⟨xs, hxs⟩ : ∃ xs, ((look k.fs s).map Fle.b).getD [] = xs := ⟨_, rfl⟩
  obtain ⟨sf, hsf⟩ : ∃ sf, ((look k.fs s).map Fle.safe).getD 0 = sf := ⟨_, rfl⟩
  rw [hxs] at hput hs1 hs2 hs3 hl0 hown ⊢
  rw [hsf] at hput hs1 hs0 ⊢
  rw [List.length_append, hR.len] at hput
  have hn9 : n ≤ 1000000000 := by omega
  have hk1g : ({ k with fs := putL k.fs s ⟨xs ++ ys, sf⟩ } : Dk).Good := good_put hgood hs (by simp; omega) (hs2.append hR.bytes) (by omega)
  obtain ⟨P, HPe⟩ : ∃ P, Hid (passK { k with fs := putL k.fs s ⟨xs ++ ys, sf⟩ } = P) := ⟨_, rfl⟩
  rw [HPe.out]
  obtain ⟨en, k2⟩ := P
  dsimp only
  subst hs0
  obtain ⟨B, hB⟩ : ∃ B : Option Addr, (g0.map fun g => (⟨g, 0, none⟩ : Addr)) = B := ⟨_, rfl⟩
  have hslv : slv (g0, l0, c0, (sf : Int)) = .slice B l0 c0 := by unfold slv; rw [hB]
  have hfo : fv ((m s).getD fv0) = .agg #[.slice B l0 c0, .int .i64 sf] := by rw [hold]; unfold fv; rw [hslv]
  have hob : (Value.slice B l0 c0).ownBlock = g0 := by rw [← hslv, slv_own]
  rw [hslv] at hown
  have hg0 : ∀ x, g0 = some x → x < W.heap.size ∧ F x ∧ x ≠ bm ∧ x ≠ d := fun x e => by
    obtain ⟨cc, h1, h2⟩ := hblk x e
    have h3 := ht s
    rw [h1] at h3
    obtain ⟨cur, h4⟩ := h3.blk h2
    have hF : F x := by
      cases hf : look k.fs s with
      | none => rw [hf] at h3; exact h3.elim
      | some f => rw [hf] at h3; exact h3.2.2.2 x h2
    exact ⟨(Array.getElem?_eq_some_iff.1 h4).1, hF, hD.map.notCells h4, fun e => by subst e; rw [hD.blk] at h4; cases h4⟩
  have hw1 : IntKind.i64.wrap ((k.room : Int) - (used k.fs : Int)) = (k.room : Int) - (used k.fs : Int) := by rw [IntKind.wrap_i64]; omega
  have hlt : decide ((n : Int) ≤ (k.room : Int) - (used k.fs : Int)) = true := by simp; omega
  have hlen1 := fun w => len_slice a n c 29 3 w Tryz.underlying29
  have HL : Hid (l0 = xs.length) := hl0
  have HL3 : Hid (xs.length = lenO (look k.fs s)) := hs3
  have HP : Hid (used (putL k.fs s ⟨xs ++ ys, sf⟩) + lenO (look k.fs s) = used k.fs + (xs.length + n)) := hput
  have HO : Hid ((m s).getD fv0 = (g0, l0, c0, (sf : Int))) := hold
  have hl9 : l0 + n ≤ 1000000000 := by omega
  have HOB : Hid ((Value.slice B l0 c0).ownBlock = g0) := hob
  clear hxs hsf hB hl0 hs3 hput hold hs1 hslv hob
  go_enter Tryz.func49, Tryz.ntmps49
  go_upto_region 1 with (first
    | (go_at_call 51; refine (hN _).mono ?_; rintro e w1 ⟨rfl, hb1⟩)
    | (go_at_call 50; refine (ask_ok _ _).mono ?_; rintro e w2 ⟨rfl, rfl⟩))
  have hbe : Below W.heap.size W w2.drew := hb1.drew
  clear hb1 q hN
  refine wp_region_lx (fun w' => w' = w2.drew) [] 13 (by kernel_rfl) (by kernel_rfl) ?_
  generalize w2.drew = X at *
  have hDX := hD.below hbe
  have q0 : X.cell? ⟨d, 0, none⟩ = some (.int .i64 (k.room : Int)) := hDX.c0
  have q2 : X.cell? ⟨d, 2, none⟩ = some (.int .i64 (used k.fs : Int)) := hDX.c2
  have hbX := box_below hb hbe
  have hdX := box_below hd hbe
  have hnX := box_below hn hbe
  have qb := box_cell hbX
  have qd := box_cell hdX
  have HS0 : X = X := rfl
  refine lx_rd 0 (.slice a n c) (by kernel_rfl) (fun _ _ d _ _ h => by cases d <;> exact h) (by kernel_rfl) HS0 rfl rfl rfl (fun w' hS => ?hA0) ?_
  case hA0 => subst hS; first | (go_simp; rfl) | go_simp
  simp only [List.setIfInBounds_toArray, List.set_cons_zero, List.set_cons_succ]
  refine lx_rd 1 (.int .i64 n) (by kernel_rfl) (fun _ _ d _ _ h => by cases d <;> exact h) (by kernel_rfl) HS0 rfl rfl rfl (fun w' hS => ?hA1) ?_
  case hA1 => subst hS; first | (go_simp; rfl) | go_simp
  simp only [List.setIfInBounds_toArray, List.set_cons_zero, List.set_cons_succ]
  refine lx_rd 2 (.pointer (some ⟨d, 0, none⟩)) (by kernel_rfl) (fun _ _ d _ _ h => by cases d <;> exact h) (by kernel_rfl) HS0 rfl rfl rfl (fun w' hS => ?hA2) ?_
  case hA2 => subst hS; first | (go_simp; rfl) | go_simp
  simp only [List.setIfInBounds_toArray, List.set_cons_zero, List.set_cons_succ]
  refine lx_rd 3 ?vA3 (by kernel_rfl) (fun _ _ d _ _ h => by cases d <;> exact h) (by kernel_rfl) HS0 rfl rfl rfl (fun w' hS => ?hA3) ?_
  case hA3 => first | (go_simp; rfl) | go_simp
  simp only [List.setIfInBounds_toArray, List.set_cons_zero, List.set_cons_succ]
  refine lx_rd 4 ?vA4 (by kernel_rfl) (fun _ _ d _ _ h => by cases d <;> exact h) (by kernel_rfl) HS0 rfl rfl rfl (fun w' hS => ?hA4) ?_
  case hA4 => first | (go_simp; rfl) | go_simp
  simp only [List.setIfInBounds_toArray, List.set_cons_zero, List.set_cons_succ]
  refine lx_rd 5 (.int .i64 k.room) (by kernel_rfl) (fun _ _ d _ _ h => by cases d <;> exact h) (by kernel_rfl) HS0 rfl rfl rfl (fun w' hS => ?hA5) ?_
  case hA5 => subst hS; first | (go_simp; rfl) | go_simp
  simp only [List.setIfInBounds_toArray, List.set_cons_zero, List.set_cons_succ]
  refine lx_rd 6 (.pointer (some ⟨d, 0, none⟩)) (by kernel_rfl) (fun _ _ d _ _ h => by cases d <;> exact h) (by kernel_rfl) HS0 rfl rfl rfl (fun w' hS => ?hA6) ?_
  case hA6 => subst hS; first | (go_simp; rfl) | go_simp
  simp only [List.setIfInBounds_toArray, List.set_cons_zero, List.set_cons_succ]
  refine lx_rd 7 ?vA7 (by kernel_rfl) (fun _ _ d _ _ h => by cases d <;> exact h) (by kernel_rfl) HS0 rfl rfl rfl (fun w' hS => ?hA7) ?_
  case hA7 => first | (go_simp; rfl) | go_simp
  simp only [List.setIfInBounds_toArray, List.set_cons_zero, List.set_cons_succ]
  refine lx_rd 8 ?vA8 (by kernel_rfl) (fun _ _ d _ _ h => by cases d <;> exact h) (by kernel_rfl) HS0 rfl rfl rfl (fun w' hS => ?hA8) ?_
  case hA8 => first | (go_simp; rfl) | go_simp
  simp only [List.setIfInBounds_toArray, List.set_cons_zero, List.set_cons_succ]
  refine lx_rd 9 (.int .i64 (used k.fs)) (by kernel_rfl) (fun _ _ d _ _ h => by cases d <;> exact h) (by kernel_rfl) HS0 rfl rfl rfl (fun w' hS => ?hA9) ?_
  case hA9 => subst hS; first | (go_simp; rfl) | go_simp
  simp only [List.setIfInBounds_toArray, List.set_cons_zero, List.set_cons_succ]
  refine lx_rd 10 (.int .i64 ((k.room : Int) - used k.fs)) (by kernel_rfl) (fun _ _ d _ _ h => by cases d <;> exact h) (by kernel_rfl) HS0 rfl rfl rfl (fun w' hS => ?hA10) ?_
  case hA10 => subst hS; first | (go_simp; rfl) | go_simp
  simp only [List.setIfInBounds_toArray, List.set_cons_zero, List.set_cons_succ]
  refine lx_rd 11 (.bool true) (by kernel_rfl) (fun _ _ d _ _ h => by cases d <;> exact h) (by kernel_rfl) HS0 rfl rfl rfl (fun w' hS => ?hA11) ?_
  case hA11 => subst hS; first | (go_simp; rfl) | go_simp
  simp only [List.setIfInBounds_toArray, List.set_cons_zero, List.set_cons_succ]
  refine lx_one 12 (by kernel_rfl) (stepT_call 50 ?aR5 rfl rfl rfl ?rR5 ?_)
  case rR5 => first | (go_simp; rfl) | go_simp
  refine (ask_ok 8 _).mono ?_
  rintro e w3 ⟨rfl, rfl⟩
  refine ⟨_, rfl, fun _ => rfl, ?_⟩
  simp only [List.setIfInBounds_toArray, List.set_cons_zero, List.set_cons_succ]
  refine lx_nil (by kernel_rfl) ?_
  clear HS0 q0 q2 qb qd hw1 hlt hlen1
  go_upto_region 2 with fail
  have hbe2 : Below W.heap.size W w3.drew := hbe.drew
  have hD3 : DR w3.drew d bm k.fs.length (rawK k) m := hDX.keep (S := fun _ => False) (Keep.refl _ _).drew (fun h => h) (fun h => h)
  have hbX3 : w3.drew.heap[bb]? = some (.cells #[.slice a n c] 29 (0, 0)) := hbX
  have hdX3 : w3.drew.heap[bd]? = some (.cells #[.pointer (some ⟨d, 0, none⟩)] 36 (0, 0)) := hdX
  have hnX3 : w3.drew.heap[bn]? = some (.cells #[.string s] 9 (0, 0)) := hnX
  refine wp_region_lx (fun w' => Below w3.drew.heap.size w3.drew w') [] 8 (by kernel_rfl) (by kernel_rfl) ?_
  clear hDX hbX hdX hnX hbe
  generalize w3.drew = Y at *
  have hbY : ∀ w', Below Y.heap.size Y w' → DR w' d bm k.fs.length (rawK k) m ∧ w'.cell? ⟨bd, 0, none⟩ = some (.pointer (some ⟨d, 0, none⟩)) ∧ w'.cell? ⟨bn, 0, none⟩ = some (.string s) := fun w' hb' => ⟨hD3.below hb', box_cell (box_below hdX3 hb'), box_cell (box_below hnX3 hb')⟩
  have HS : Below Y.heap.size Y Y := Below.refl _ _
  refine lx_rd 0 (.pointer (some ⟨d, 0, none⟩)) (by kernel_rfl) (fun _ _ d _ _ h => by cases d <;> exact h) (by kernel_rfl) HS rfl rfl rfl (fun w' hS => ?hB0) ?_
  case hB0 => have q1 := (hbY _ hS).2.1; first | (go_simp; rfl) | go_simp
  simp only [List.setIfInBounds_toArray, List.set_cons_zero, List.set_cons_succ]
  refine lx_rd 1 ?vB1 (by kernel_rfl) (fun _ _ d _ _ h => by cases d <;> exact h) (by kernel_rfl) HS rfl rfl rfl (fun w' hS => ?hB1) ?_
  case hB1 => first | (go_simp; rfl) | go_simp
  simp only [List.setIfInBounds_toArray, List.set_cons_zero, List.set_cons_succ]
  refine lx_rd 2 ?vB2 (by kernel_rfl) (fun _ _ d _ _ h => by cases d <;> exact h) (by kernel_rfl) HS rfl rfl rfl (fun w' hS => ?hB2) ?_
  case hB2 => first | (go_simp; rfl) | go_simp
  simp only [List.setIfInBounds_toArray, List.set_cons_zero, List.set_cons_succ]
  refine lx_rd 3 (.map (some bm)) (by kernel_rfl) (fun _ _ d _ _ h => by cases d <;> exact h) (by kernel_rfl) HS rfl rfl rfl (fun w' hS => ?hB3) ?_
  case hB3 => have q1 := (hbY _ hS).1.c1; first | (go_simp; rfl) | go_simp
  simp only [List.setIfInBounds_toArray, List.set_cons_zero, List.set_cons_succ]
  refine lx_rd 4 (.string s) (by kernel_rfl) (fun _ _ d _ _ h => by cases d <;> exact h) (by kernel_rfl) HS rfl rfl rfl (fun w' hS => ?hB4) ?_
  case hB4 => have q1 := (hbY _ hS).2.2; first | (go_simp; rfl) | go_simp
  simp only [List.setIfInBounds_toArray, List.set_cons_zero, List.set_cons_succ]
  refine lx_rd 5 (.agg #[.slice B l0 c0, .int .i64 sf]) (by kernel_rfl) (fun _ _ d _ _ h => by cases d <;> exact h) (by kernel_rfl) HS rfl rfl rfl (fun w' hS => ?hB5) ?_
  case hB5 => have q1 := (hbY _ hS).1.map.look1 s hmax; rw [hfo] at q1; first | (go_simp; rfl) | go_simp
  simp only [List.setIfInBounds_toArray, List.set_cons_zero, List.set_cons_succ]
  refine lx_one 6 (by kernel_rfl) (stepT_val (w' := Y.alloc (.cells #[.slice none 0 0, .int .i64 0] 106)) (.pointer (some ⟨Y.heap.size, 0, none⟩)) rfl rfl rfl ?r6 (fun _ => (Below.refl _ _).alloc (Nat.le_refl _) _) ?_)
  case r6 => first | (go_simp; rfl) | go_simp
  simp only [List.setIfInBounds_toArray, List.set_cons_zero, List.set_cons_succ]
  refine lx_one 7 (by kernel_rfl) (stepT_store (w' := Y.alloc (.cells #[.slice B l0 c0, .int .i64 sf] 106)) rfl rfl rfl ?r7 (fun _ => (Below.refl _ _).alloc (Nat.le_refl _) _) ?_)
  case r7 => first | (go_simp; rfl) | go_simp
  refine lx_nil (by kernel_rfl) ?_
  have hbe4 : Below W.heap.size W (Y.alloc (.cells #[.slice B l0 c0, .int .i64 sf] 106)) := hbe2.alloc hbe2.size _
  have hfil := alloc_at Y (.cells #[.slice B l0 c0, .int .i64 sf] 106)
  have hYs := hbe2.size
  obtain ⟨bf, hbf⟩ : ∃ bf, Y.heap.size = bf := ⟨_, rfl⟩
  rw [hbf] at hfil hYs ⊢
  clear hbY HS hbX3 hdX3 hnX3 hD3 hbe2
  have hsz4 : (Y.alloc (.cells #[.slice B l0 c0, .int .i64 sf] 106)).heap.size = bf + 1 := by simp [hbf]
  clear hbf
  generalize Y.alloc (.cells #[.slice B l0 c0, .int .i64 sf] 106) = Z at *
  have hb4 := box_below hb hbe4
  have hd4 := box_below hd hbe4
  have hn4 := box_below hn hbe4
  have hD4 := hD.below hbe4
  have qb := box_cell hb4
  have f0 := cell_of_block hfil 0
  have f1 := cell_of_block hfil 1
  simp at f0 f1
  have hRZ : Rd Z a n c ys := hR.carry (Nat.le_refl _) hbe4
  have hownZ : Z.ownsRow 0 5 1 (.slice B l0 c0) l0 (bc xs) := own_keep (S := fun _ => False) hown (Keep.ofBelow hbe4) (fun _ _ h => h)
  go_upto_region 4 with (first
    | (at_builtin; (refine wp_appK rfl _ _ rfl 0 (.slice B l0 c0) l0 xs rfl hownZ a n c ys rfl hRZ hl9 (Nat.zero_le _) ?_; intro v' w5 hown5 hgr5 hwh5; obtain ⟨a5, cp5, rfl, hob5⟩ := own_form hown5; have hk5 := Keep.ofGrown hgr5; rw [HOB.out] at hk5 hwh5; rw [hob5] at hwh5; have hfil5 := box_keep hfil hk5 (fun e => by have := (hg0 _ e).1; omega); have e0 := cell_of_block hfil5 0; have e1 := cell_of_block hfil5 1; simp at e0 e1; have z0 := unfrozen_of_block hfil5 0)))
  have hkV : Keep (fun i => g0 = some i) W (w5.setCell ⟨bf, 0, none⟩ (.slice (a5.map fun g => ⟨g, 0, none⟩) (l0 + n) cp5)) := ((Keep.ofBelow hbe4).trans hk5).setNew (show W.heap.size ≤ bf from hYs) _
  have hfilV := block_setCell (i := 0) hfil5 (.slice (a5.map fun g => ⟨g, 0, none⟩) (l0 + n) cp5)
  have hZ5 := hk5.size
  have ha5 : ∀ g, a5 = some g → g ≠ bf ∧ g < w5.heap.size ∧ g ≠ d ∧ g ≠ bm := fun g e => by
    have hlt5 : g < w5.heap.size := by
      rcases hown5.2 with ⟨h1, _⟩ | ⟨g', cap, cur, h1, _, h2, _⟩
      · rw [e] at h1; cases h1
      · rw [e] at h1
        have h3 : (some (⟨g, 0, none⟩ : Addr)) = some ⟨g', 0, none⟩ := by injection h1
        have h4 : g = g' := by injection h3 with h3; injection h3
        subst h4
        exact (Array.getElem?_eq_some_iff.1 h2).1
    have h1 := hD.lt
    have h2 := hD.map.lt
    rcases hwh5 with h | h
    · rw [e] at h
      obtain ⟨x1, _, x2, x3⟩ := hg0 g h.symm
      exact ⟨by omega, hlt5, x3, x2⟩
    · rw [e] at h
      cases h
      exact ⟨by omega, hlt5, by omega, by omega⟩
  have hownV : (w5.setCell ⟨bf, 0, none⟩ (.slice (a5.map fun g => ⟨g, 0, none⟩) (l0 + n) cp5)).ownsRow 0 5 1 (.slice (a5.map fun g => ⟨g, 0, none⟩) (l0 + n) cp5) (l0 + n) (bc (xs ++ ys)) :=
    own_keep hown5 ((Keep.refl (fun i => i = bf) w5).setCell (p := ⟨bf, 0, none⟩) rfl _) (fun g hg e => by rw [hob5] at hg; exact (ha5 g hg).1 e)
  have hszV : w5.heap.size = (w5.setCell ⟨bf, 0, none⟩ (.slice (a5.map fun g => ⟨g, 0, none⟩) (l0 + n) cp5)).heap.size := by simp [World.setCell]
  clear hown5 hgr5 hfil5 e0 e1 z0 hbe4 hfil hb4 hd4 hn4 hD4 qb f0 f1 hRZ hownZ hk5
  generalize w5.setCell ⟨bf, 0, none⟩ (.slice (a5.map fun g => ⟨g, 0, none⟩) (l0 + n) cp5) = V at *
  have hdV := box_keep hd hkV (fun e => hFd (hg0 _ e).2.1)
  have hnV := box_keep hn hkV (fun e => hFn (hg0 _ e).2.1)
  have hDV := hD.keep hkV (fun e => (hg0 _ e).2.2.2 rfl) (fun e => (hg0 _ e).2.2.1 rfl)
  have p0 := cell_of_block hfilV 0
  have p1 := cell_of_block hfilV 1
  simp at p0 p1
  have pd := box_cell hdV
  have pn := box_cell hnV
  have hoL : ((m s).getD fv0).2.1 = l0 := by rw [HO.out]
  have hP := put_any d bm k.fs.length (rawK k) m s (by omega) hfl a5 (l0 + n) cp5 sf V hDV (by simp [rawK]) (by simp [rawK]; omega) hl9 (by rw [hoL]; omega)
  rw [hoL] at hP
  obtain ⟨A5, hA5⟩ : ∃ A : Option Addr, (a5.map fun g => (⟨g, 0, none⟩ : Addr)) = A := ⟨_, rfl⟩
  rw [hA5] at p0 hP
  clear hoL
  go_upto_region 5 with (first
    | (go_at_call 52; refine hP.mono ?_; rintro e w7 ⟨rfl, hD7, hk7⟩))
  have hraw : rawK { k with fs := putL k.fs s ⟨xs ++ ys, sf⟩ } = { rawK k with used := (rawK k).used + (((l0 + n : Nat) : Int) - (l0 : Int)) } := by
    have h1 := HP.out
    have h2 := HL.out
    have h3 := HL3.out
    unfold rawK
    congr 1
    show ((used (putL k.fs s ⟨xs ++ ys, sf⟩) : Nat) : Int) = (used k.fs : Int) + (((l0 + n : Nat) : Int) - (l0 : Int))
    omega
  rw [← hraw] at hD7
  have hXL : (xs ++ ys).length = l0 + n := by rw [List.length_append, ← HL.out, hR.len]
  have hDp : Dp W F d { k with fs := putL k.fs s ⟨xs ++ ys, sf⟩ } w7 := by
    refine DiskAt.put (S := fun i => g0 = some i) (c := (a5, l0 + n, cp5, (sf : Int))) (f := ⟨xs ++ ys, sf⟩) hbm ht ha fd lt hD.blk hD.map hkV (fun i hi => hblk i hi) hk7 hD7 rfl hgood.rise hk1g rfl hXL.symm ?_ (fun g hg => ?_)
    · rw [hXL]
      refine own_keep (v := .slice (a5.map fun g => ⟨g, 0, none⟩) (l0 + n) cp5) hownV hk7 (fun g hg e => ?_)
      rw [hob5] at hg
      rcases e with e | e
      · exact (ha5 g hg).2.2.1 e
      · exact (ha5 g hg).2.2.2 e
    · rcases hwh5 with h | h
      · obtain ⟨cc, h1, h2⟩ := hblk g (h.symm.trans hg)
        obtain ⟨x1, x2⟩ := row_own ht ha h1 h2
        exact ⟨Or.inl x1, x2⟩
      · have hg' : a5 = some g := hg
        have hgn : W.heap.size ≤ g := by rw [hg'] at h; cases h; omega
        refine ⟨Or.inr ⟨hgn, ?_⟩, fun t e _ he => row_new ht lt hgn t e he⟩
        have := (ha5 g hg).2.1; have := hk7.size; omega
  obtain ⟨F7, hD8, hk8, hF8⟩ := hDp
  have hd7 := box_cell (box_keep hd hk8 hFd)
  have hPs := pass_D w7 F7 d _ hD8 on hst
  clear hP hDV hraw p0 p1 pd pn hdV hnV hfilV hownV
  rw [HPe.out] at hPs
  dsimp only at hPs
  clear HPe HP HL HL3 HO
  by_cases h0 : en = 0
  · subst h0
    have hc' := hPs.mono (fun e w' h => And.intro (h.1.elim (fun k => k.2) (fun k => absurd rfl k.1)) h.2 : ∀ e w', _ → (e = .returned (.tuple #[]) ∧ _))
    clear hPs
    go_wp2_with (first
      | (go_at_call 53; refine hc'.mono ?_; rintro e w9 ⟨rfl, hDp⟩))
    go_end0
    exact ⟨Or.inl ⟨rfl, rfl⟩, Dp.next hk8 hF8 hDp⟩
  · have hc' := hPs.mono (fun e w' h => And.intro (h.1.elim (fun k => absurd k.1 h0) (fun k => k.2)) h.2 : ∀ e w', _ → (e = .panicked (gaveUp en) ∧ _))
    clear hPs
    go_wp2_with (first
      | (go_at_call 53; refine hc'.mono ?_; rintro e w9 ⟨rfl, hDp⟩))
    exact ⟨rfl, Or.inr ⟨h0, rfl⟩, Dp.next hk8 hF8 hDp⟩

end Go.Proofs.YtikkieaokfailaaGreatDoor
