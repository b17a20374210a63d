/- PrivacyFront: a rule of all at the front decides. -/
import Derived.Test.YtiplalbicibahaaDoorPvM
set_option maxRecDepth 100000
namespace Go.Proofs.YtiplalbicibahaaDoor
open Go.RowKit Go.Joins Go.Shelf

/-! ### without memory -/
def wOld : By := [111, 108, 100]
def wNew : By := [110, 101, 119]
def frontT (al inn : Bool) : By := (if al then [97, 108, 108, 111, 119, 32] else [100, 101, 110, 121, 32]) ++ (if inn then [105, 110, 32, 97, 108, 108] else [111, 117, 116, 32, 97, 108, 108])
theorem front_parse : ∀ al inn, parseR (frontT al inn) = (⟨al, inn, !inn, wAll, []⟩, 0) := by intro al inn; cases al <;> cases inn <;> kernel_rfl
theorem front_len (al inn : Bool) : (frontT al inn).length ≤ 120 := by cases al <;> cases inn <;> decide
theorem read_cons (t : By) (ts : List By) (r : Rul) (h : parseR t = (r, 0)) (h2 : (readR ts).2 = 0) : readR (t :: ts) = (r :: (readR ts).1, 0) := by
  rw [readR, h]
  dsimp only
  rw [if_pos rfl, if_pos h2]
def frP (L : List By) : Pl := putP (pl0 3 100) wOld (readR L).1
theorem fr_old (L : List By) (hl : L.length ≤ 20) : setR (pl0 3 100) wOld L = if (readR L).2 = 0 then (0, frP L) else ((readR L).2, pl0 3 100) := by
  unfold setR
  rw [if_neg (show ¬ (nameE wOld ≠ 0) by decide +kernel)]
  by_cases h : (readR L).2 = 0
  · rw [if_neg (by simp [h]), if_pos h]
    have : fullR (pl0 3 100) wOld L.length = false := by
      unfold fullR pl0
      simp
      omega
    rw [this, if_neg (by decide)]
    rfl
  · rw [if_pos h, if_neg h]
theorem fr_new (L : List By) (al inn : Bool) (hl : L.length ≤ 20) (h : (readR L).2 = 0) : setR (frP L) wNew (frontT al inn :: L) = (0, putP (frP L) wNew (⟨al, inn, !inn, wAll, []⟩ :: (readR L).1)) := by
  unfold setR
  rw [if_neg (show ¬ (nameE wNew ≠ 0) by decide +kernel), read_cons _ _ _ (front_parse al inn) h]
  dsimp only
  rw [if_neg (by simp)]
  have : fullR (frP L) wNew (frontT al inn :: L).length = false := by
    unfold fullR
    have e1 : ((frP L).m wNew).isSome = false := by
      unfold frP putP
      dsimp only
      rw [putM_other _ _ (by decide)]
      rfl
    have e2 : (frP L).ks.length = 1 := rfl
    rw [e1, e2, Bool.or_eq_false_iff]
    refine ⟨?_, by show (!false && decide ((3 : Int) ≤ ((1 : Nat) : Int))) = false; decide⟩
    rw [List.length_cons, decide_eq_false_iff_not]
    show ¬ (100 : Int) < _
    omega
  rw [this, if_neg (by decide)]
theorem fr_held_new (L : List By) (r : Rul) : heldR (putP (frP L) wNew (r :: (readR L).1)) wNew = r :: (readR L).1 := by
  unfold heldR heldN
  have : (putP (frP L) wNew (r :: (readR L).1)).m wNew = some (r :: (readR L).1) := putM_same (frP L).m wNew (some (r :: (readR L).1))
  rw [this]
  simp [this]
theorem fr_held_old (L : List By) (r : Rul) : heldR (putP (frP L) wNew (r :: (readR L).1)) wOld = (readR L).1 := by
  unfold heldR heldN
  have : (putP (frP L) wNew (r :: (readR L).1)).m wOld = some (readR L).1 := by
    show putM (frP L).m wNew (some (r :: (readR L).1)) wOld = _
    rw [putM_other _ _ (by decide)]
    exact putM_same (pl0 3 100).m wOld (some (readR L).1)
  rw [this]
  simp [this]
theorem fr_same (al inn : Bool) (y : Qy) (rs : List Rul) (hy : y.i = inn) : allowsR y (⟨al, inn, !inn, wAll, []⟩ :: rs) = al := by
  refine allowsR_some (List.find?_cons_of_pos ?_)
  unfold fitsR
  rw [hy]
  cases inn <;> rfl
theorem fr_other (al inn : Bool) (y : Qy) (rs : List Rul) (hy : y.i = !inn) : allowsR y (⟨al, inn, !inn, wAll, []⟩ :: rs) = allowsR y rs := by
  unfold allowsR
  rw [List.find?_cons_of_neg]
  unfold fitsR
  rw [hy]
  cases inn <;> simp

theorem readR_none : ∀ ts : List By, (readR ts).2 ≠ 0 → (readR ts).1 = []
  | [], h => absurd rfl h
  | t :: ts, h => by
    rw [readR] at h ⊢
    by_cases h1 : (parseR t).2 = 0
    · rw [if_pos h1] at h ⊢
      by_cases h2 : (readR ts).2 = 0
      · rw [if_pos h2] at h; exact absurd rfl h
      · rw [if_neg h2]
    · rw [if_neg h1]
/-! ### the law -/
theorem exec_load_midP {o : Oper} {ρ : Operand → Value} {w : World} (ty : TypeId) (x : Operand) (ho : o.op = .load ty x) (b off : Nat) (hx : ρ x = .pointer (some ⟨b, off, none⟩)) (cs : List Value) (d : TypeDesc) (hc : w.rangeAt b off cs)
    (hu : Tryd.prog.underlying ty = some d) (hd : d.isRow = true) (hi : (Tryd.prog.info? ty).map (·.size) = some cs.length) :
    (execOp ρ o).run Tryd.prog w = .ok (.value (.agg cs.toArray)) w := by
  unfold execOp
  simp only [ho, hx, Instr.loadAt, Instr.sureAddr, Sem.run_bind, Sem.run_pure, Result.andThen_ok, run_loadVar_mid w b off ty cs d hc hu hd hi]
theorem exec_store_op {o : Oper} {ρ : Operand → Value} {w : World} (x y : Operand) (ho : o.op = .store 39 x y) (g : Nat) (hx : ρ x = .pointer (some ⟨g, 0, none⟩)) (p : Op7) (hy : ρ y = .agg (oc p)) (old : Array Value) (hol : old.size = 7) (hg : w.heap[g]? = some (.cells old 39 (0, 0))) (hi : (Tryd.prog.info? 39).map (·.size) = some 7) :
    (execOp ρ o).run Tryd.prog w = .ok .skip (w.setRow g (oc p)) := by
  unfold execOp
  simp only [ho, hx, hy, Instr.storeAt, Instr.sureAddr, Sem.run_bind, Sem.run_pure, Result.andThen_ok, run_storeVar_row w g 39 39 _ (oc p) hg (by rw [hi]; rfl) (by rw [hol]; rfl) (by simp [oc, Value.oneCell'])]
structure FrA where
  ta : Option Addr
  tn : Nat
  tcp : Nat
  al : Bool
  i : Bool
def fc (x : FrA) (o : Op7) : Array Value := #[.slice x.ta x.tn x.tcp, .bool x.al, .bool x.i, .int .i64 o.d, .string (ba o.nm), .slice o.ta o.tn o.tc, .bool o.i, .string (ba o.c), .slice o.ga o.gn o.gc, .string (ba o.s)]
theorem infoOp : (Tryd.prog.info? 39).map (·.size) = some 7 := by kernel_rfl
theorem oc_one (o : Op7) : (oc o).all (·.oneCell') = true := by simp [oc, Value.oneCell']
/-- The law's two variables. -/
structure FrB (w : World) (b : Nat) (x : FrA) (o : Op7) (w' : World) : Prop where
  b0 : w'.heap[b]? = some (.cells (fc x o) 48 (0, 0))
  b1 : w'.heap[b + 1]? = some (.cells (oc o) 39 (0, 0))
  bl : Below b w w'
/-- All that the law holds. -/
structure FrS (w : World) (B : Nat) (o : Op7) (la : Option Addr) (N lcp : Nat) (L : List By) (q : Nat) (Z : Nat → Prop) (P : Pl) (W : World) : Prop where
  st : St B w W q P Z
  b1 : W.heap[B + 1]? = some (.cells (oc o) 39 (0, 0))
  l : TRd W la N lcp L
  lz : ∀ ad, la = some ad → Z ad.block
  zo : Z (B + 1)
section
variable {w W W' : World} {B : Nat} {o : Op7} {la : Option Addr} {N lcp : Nat} {L : List By} {q : Nat} {Z : Nat → Prop} {P P' : Pl}
theorem FrS.c4 (h : FrS w B o la N lcp L q Z P W) : W.cell? ⟨B + 1, 4, none⟩ = some (.string (ba o.c)) := by rw [cell_of_block h.b1]; rfl
theorem FrS.c5 (h : FrS w B o la N lcp L q Z P W) : W.cell? ⟨B + 1, 5, none⟩ = some (.slice o.ga o.gn o.gc) := by rw [cell_of_block h.b1]; rfl
theorem FrS.c6 (h : FrS w B o la N lcp L q Z P W) : W.cell? ⟨B + 1, 6, none⟩ = some (.string (ba o.s)) := by rw [cell_of_block h.b1]; rfl
theorem FrS.below (h : FrS w B o la N lcp L q Z P W) (hb : Below W.heap.size W W') : FrS w B o la N lcp L q Z P W' := ⟨h.st.below hb, box_below h.b1 hb, h.l.below hb, h.lz, h.zo⟩
theorem FrS.turn (h : FrS w B o la N lcp L q Z P W) (h' : St B w W' q P' Z) (hk : Keep (Oth B Z) W W') : FrS w B o la N lcp L q Z P' W' := ⟨h', box_keep h.b1 hk (fun e => e.2 h.zo), h.l.keep hk (fun ad e k => k.2 (h.lz ad e)), h.lz, h.zo⟩
theorem FrS.own {S : Nat → Prop} (h : FrS w B o la N lcp L q Z P W) (hk : Keep S W W') (hS : ∀ i, S i → W.heap.size ≤ i) : FrS w B o la N lcp L q Z P W' := h.below ⟨hk.os, hk.tape, hk.output, hk.size, fun k hk' => hk.block k hk' (fun s => by have := hS k s; omega)⟩
end
set_option maxHeartbeats 1600000 in
theorem privacyFront_any (x : FrA) (o : Op7) (ts gs us : List By) (w : World) (hx : TRd w x.ta x.tn x.tcp ts) (ho : OpR w o us gs) (hT : Lib.Utf8Tabs 0 1 w) :
    Calls Tryd.prog 5 #[.agg (fc x o)] w fun e w' => e = .returned (.bool true) ∧ Below w.heap.size w w' := by
  have HA : Hid (TRd w x.ta x.tn x.tcp ts ∧ OpR w o us gs ∧ Lib.Utf8Tabs 0 1 w) := ⟨hx, ho, hT⟩
  clear hx ho hT
  have HB0 : Hid ((w.alloc (.cells (fc x o) 48)).drew.heap[w.heap.size]? = some (.cells (fc x o) 48 (0, 0)) ∧ Below w.heap.size w (w.alloc (.cells (fc x o) 48)).drew ∧ (w.alloc (.cells (fc x o) 48)).drew.heap.size = w.heap.size + 1) := ⟨push_at _ _ rfl, (below1 _ _).drew, by simp⟩
  unfold fc at HB0
  unfold fc
  go_enter Tryd.func5, Tryd.ntmps5
  go_upto_region 1 with fail
  refine wp_region_lx (fun w' => w'.heap[w.heap.size]? = some (.cells (fc x o) 48 (0, 0))) [] 13 (by kernel_rfl) (by kernel_rfl) ?_
  generalize World.drew _ = X at HB0 ⊢
  obtain ⟨B, HBz⟩ : ∃ B, Hid (w.heap.size = B) := ⟨_, rfl⟩
  rw [HBz.out] at HB0 ⊢
  have HS0 : X.heap[B]? = some (.cells (fc x o) 48 (0, 0)) := HB0.out.1
  have hc : ∀ w' : World, w'.heap[B]? = some (.cells (fc x o) 48 (0, 0)) → w'.cell? ⟨B, 0, none⟩ = some (.slice x.ta x.tn x.tcp) ∧ w'.cell? ⟨B, 1, none⟩ = some (.bool x.al) ∧ w'.cell? ⟨B, 2, none⟩ = some (.bool x.i) ∧ w'.rangeAt B 3 (oc o).toList := fun w' h => by
    refine ⟨by rw [cell_of_block h]; rfl, by rw [cell_of_block h]; rfl, by rw [cell_of_block h]; rfl, ?_⟩
    have := World.rangeAt_of_block h 3 7
    exact this
  replace hc : Hid _ := hc
  refine lx_rd 0 (.pointer (some ⟨B, 0, none⟩)) (by kernel_rfl) (fun _ _ d _ _ h => by cases d <;> exact h) (by kernel_rfl) HS0 rfl rfl rfl (fun w' hS => ?hA0) ?_
  case hA0 => first | (go_simp; rfl) | go_simp
  simp only [List.setIfInBounds_toArray, List.set_cons_zero, List.set_cons_succ]
  refine lx_rd 1 (.slice x.ta x.tn x.tcp) (by kernel_rfl) (fun _ _ d _ _ h => by cases d <;> exact h) (by kernel_rfl) HS0 rfl rfl rfl (fun w' hS => ?hA1) ?_
  case hA1 => have q0 := (hc.out w' hS).1; first | (go_simp; rfl) | go_simp
  simp only [List.setIfInBounds_toArray, List.set_cons_zero, List.set_cons_succ]
  refine lx_rd 2 (.pointer (some ⟨B, 1, none⟩)) (by kernel_rfl) (fun _ _ d _ _ h => by cases d <;> exact h) (by kernel_rfl) HS0 rfl rfl rfl (fun w' hS => ?hA2) ?_
  case hA2 => first | (go_simp; rfl) | go_simp
  simp only [List.setIfInBounds_toArray, List.set_cons_zero, List.set_cons_succ]
  refine lx_rd 3 (.bool x.al) (by kernel_rfl) (fun _ _ d _ _ h => by cases d <;> exact h) (by kernel_rfl) HS0 rfl rfl rfl (fun w' hS => ?hA3) ?_
  case hA3 => have q0 := (hc.out w' hS).2.1; first | (go_simp; rfl) | go_simp
  simp only [List.setIfInBounds_toArray, List.set_cons_zero, List.set_cons_succ]
  refine lx_rd 4 (.pointer (some ⟨B, 2, none⟩)) (by kernel_rfl) (fun _ _ d _ _ h => by cases d <;> exact h) (by kernel_rfl) HS0 rfl rfl rfl (fun w' hS => ?hA4) ?_
  case hA4 => first | (go_simp; rfl) | go_simp
  simp only [List.setIfInBounds_toArray, List.set_cons_zero, List.set_cons_succ]
  refine lx_rd 5 (.bool x.i) (by kernel_rfl) (fun _ _ d _ _ h => by cases d <;> exact h) (by kernel_rfl) HS0 rfl rfl rfl (fun w' hS => ?hA5) ?_
  case hA5 => have q0 := (hc.out w' hS).2.2.1; first | (go_simp; rfl) | go_simp
  simp only [List.setIfInBounds_toArray, List.set_cons_zero, List.set_cons_succ]
  refine lx_rd 6 (.pointer (some ⟨B, 3, none⟩)) (by kernel_rfl) (fun _ _ d _ _ h => by cases d <;> exact h) (by kernel_rfl) HS0 rfl rfl rfl (fun w' hS => ?hA6) ?_
  case hA6 => first | (go_simp; rfl) | go_simp
  simp only [List.setIfInBounds_toArray, List.set_cons_zero, List.set_cons_succ]
  refine lx_rd 7 (.agg (oc o)) (by kernel_rfl) (fun _ _ d _ _ h => by cases d <;> exact h) (by kernel_rfl) HS0 rfl rfl rfl (fun w' hS => ?hA7) ?_
  case hA7 => exact exec_load_midP 39 (.tmp 17) rfl B 3 rfl (oc o).toList _ (hc.out w' hS).2.2.2 Tryd.underlying39 rfl (by rw [infoOp]; rfl)
  simp only [List.setIfInBounds_toArray, List.set_cons_zero, List.set_cons_succ]
  refine lx_one 8 (by kernel_rfl) (stepT_val (w' := X.alloc (.cells #[.int .i64 0, .string ⟨#[]⟩, .slice none 0 0, .bool false, .string ⟨#[]⟩, .slice none 0 0, .string ⟨#[]⟩] 39)) (.pointer (some ⟨B + 1, 0, none⟩)) rfl rfl rfl ?ra (fun _ => push_old HS0) ?_)
  case ra =>
    have hz := HB0.out.2.2
    rw [← hz]
    first | (go_simp; rfl) | go_simp
  simp only [lxa, lxb, lxc]
  have HX1 : Hid ((X.alloc (.cells #[.int .i64 0, .string ⟨#[]⟩, .slice none 0 0, .bool false, .string ⟨#[]⟩, .slice none 0 0, .string ⟨#[]⟩] 39)).heap[B]? = some (.cells (fc x o) 48 (0, 0)) ∧ (X.alloc (.cells #[.int .i64 0, .string ⟨#[]⟩, .slice none 0 0, .bool false, .string ⟨#[]⟩, .slice none 0 0, .string ⟨#[]⟩] 39)).heap[B + 1]? = some (.cells #[.int .i64 0, .string ⟨#[]⟩, .slice none 0 0, .bool false, .string ⟨#[]⟩, .slice none 0 0, .string ⟨#[]⟩] 39 (0, 0)) ∧ Below B w (X.alloc (.cells #[.int .i64 0, .string ⟨#[]⟩, .slice none 0 0, .bool false, .string ⟨#[]⟩, .slice none 0 0, .string ⟨#[]⟩] 39)) ∧ (X.alloc (.cells #[.int .i64 0, .string ⟨#[]⟩, .slice none 0 0, .bool false, .string ⟨#[]⟩, .slice none 0 0, .string ⟨#[]⟩] 39)).heap.size = B + 2) :=
    ⟨push_old HS0, push_at _ _ (by rw [HB0.out.2.2]), HB0.out.2.1.alloc (by rw [HB0.out.2.2]; omega) _, by simp; rw [HB0.out.2.2]⟩
  generalize X.alloc _ = Y at HX1 ⊢
  clear HS0 HB0
  have HS1 : Y.heap[B]? = some (.cells (fc x o) 48 (0, 0)) := HX1.out.1
  refine lx_rd 9 (.slice x.ta x.tn x.tcp) (by kernel_rfl) (fun _ _ d _ _ h => by cases d <;> exact h) (by kernel_rfl) HS1 rfl rfl rfl (fun w' hS => ?hC9) ?_
  case hC9 => first | (go_simp; rfl) | go_simp
  simp only [List.setIfInBounds_toArray, List.set_cons_zero, List.set_cons_succ]
  refine lx_rd 10 (.bool x.al) (by kernel_rfl) (fun _ _ d _ _ h => by cases d <;> exact h) (by kernel_rfl) HS1 rfl rfl rfl (fun w' hS => ?hC10) ?_
  case hC10 => first | (go_simp; rfl) | go_simp
  simp only [List.setIfInBounds_toArray, List.set_cons_zero, List.set_cons_succ]
  refine lx_rd 11 (.bool x.i) (by kernel_rfl) (fun _ _ d _ _ h => by cases d <;> exact h) (by kernel_rfl) HS1 rfl rfl rfl (fun w' hS => ?hC11) ?_
  case hC11 => first | (go_simp; rfl) | go_simp
  simp only [List.setIfInBounds_toArray, List.set_cons_zero, List.set_cons_succ]
  refine lx_one 12 (by kernel_rfl) (stepT_store (w' := Y.setRow (B + 1) (oc o)) rfl rfl rfl ?rs (fun _ => box_keep HX1.out.1 (rowK Y (B + 1) _) (by omega)) ?_)
  case rs => exact exec_store_op (.tmp 6) (.tmp 18) rfl (B + 1) rfl o rfl _ rfl HX1.out.2.1 infoOp
  refine lx_nil (by kernel_rfl) ?_
  have HY : Hid (FrB w B x o (Y.setRow (B + 1) (oc o)) ∧ (Y.setRow (B + 1) (oc o)).heap.size = B + 2) :=
    ⟨⟨box_keep HX1.out.1 (rowK Y (B + 1) _) (by omega), setRow_heap Y (B + 1) _ _ 39 (0, 0) HX1.out.2.1, HX1.out.2.2.1.trans ((rowK Y (B + 1) _).below (by rw [HX1.out.2.2.2]; omega) (fun i hi => by omega))⟩, by simp; exact HX1.out.2.2.2⟩
  clear HX1 hc
  generalize Y.setRow _ _ = Y1 at HY ⊢
  have cN := new_ok 3 100 Y1 (by decide) (by decide)
  obtain ⟨q, Hq⟩ : ∃ q, Hid (Y1.heap.size + 1 = q) := ⟨_, rfl⟩
  rw [Hq.out] at cN
  go_upto_region 3 with (go_at_call 13; refine cN.mono ?_; clear cN; rintro e w1 ⟨rfl, h1, hb1⟩)
  have S1 : Hid (St B w w1 q (pl0 3 100) (fun i => i = B ∨ i = B + 1) ∧ FrB w B x o w1) := ⟨St.new HY.out.1.bl (by rw [HY.out.2]; omega) (fun i hi => by rw [HY.out.2]; omega) h1 (fun i hi => by have := Hq.out; omega) hb1, ⟨box_below HY.out.1.b0 hb1, box_below HY.out.1.b1 hb1, HY.out.1.bl.trans (hb1.mono (by rw [HY.out.2]; omega))⟩⟩
  clear h1 hb1 HY
  have hTw : ∀ W, Below B w W → Lib.Utf8Tabs 0 1 W := fun W hb => tabs_bel HA.out.2.2 (by rw [HBz.out]; exact hb)
  replace hTw : Hid _ := hTw
  have cW := wakes_any w1 (hTw.out w1 S1.out.2.bl)
  go_upto_region 5 with (go_at_call 12; refine cW.mono ?_; clear cW; rintro e w2 ⟨rfl, hb2⟩)
  have S2 : Hid (St B w w2 q (pl0 3 100) (fun i => i = B ∨ i = B + 1) ∧ FrB w B x o w2) := ⟨S1.out.1.below hb2, ⟨box_below S1.out.2.b0 hb2, box_below S1.out.2.b1 hb2, (S1.out.1.below hb2).bl⟩⟩
  clear S1 hb2
  have cT := texts_any x.ta x.tn x.tcp ts 20 120 w2 (HA.out.1.below (by rw [HBz.out]; exact S2.out.2.bl)) (by omega) (by omega)
  obtain ⟨L, HL⟩ : ∃ L, Hid (cutT ts 20 120 = L) := ⟨_, rfl⟩
  rw [HL.out] at cT
  go_upto_region 6 with (go_at_call 14; refine cT.mono ?_; clear cT; rintro e w3 ⟨v3, rfl, o3, hb3⟩)
  obtain ⟨la, lcp, hv3, t3⟩ := TRd.ofOwn o3
  subst hv3
  obtain ⟨N, HN⟩ : ∃ N, Hid (L.length = N) := ⟨_, rfl⟩
  have HN20 : Hid (N ≤ 20) := by
    have := cutT_len ts 20 120
    rw [HL.out, HN.out] at this
    exact this
  rw [HN.out] at t3 o3 ⊢
  obtain ⟨Z, HZ⟩ : ∃ Z : Nat → Prop, Hid ((fun i => (i = B ∨ i = B + 1) ∨ (w2.heap.size ≤ i ∧ i < w3.heap.size)) = Z) := ⟨_, rfl⟩
  have S3 : Hid (FrS w B o la N lcp L q Z (pl0 3 100) w3) := by
    have h1 := S2.out.1.grow hb3
    rw [HZ.out] at h1
    refine ⟨h1, box_below S2.out.2.b1 hb3, t3, fun ad had => ?_, ?_⟩
    · rw [← HZ.out]
      subst had
      rcases o3.2 with ⟨e, _⟩ | ⟨g, cap, cur, e, hg, hh, _⟩
      · cases e
      · cases e
        exact Or.inr ⟨hg, box_lt hh⟩
    · rw [← HZ.out]; exact Or.inl (Or.inr rfl)
  clear S2 hb3 o3 t3 HZ
  obtain ⟨al, Hal⟩ : ∃ al, Hid (x.al = al) := ⟨_, rfl⟩
  obtain ⟨ii, Hii⟩ : ∃ ii, Hid (x.i = ii) := ⟨_, rfl⟩
  obtain ⟨FT, HFT⟩ : ∃ FT, Hid (frontT al ii = FT) := ⟨_, rfl⟩
  have hLs : ∀ t ∈ L, t.length ≤ 120 := by rw [← HL.out]; exact cutT_size ts 20 120
  have hL2 : cutT L 20 120 = L := by rw [← HL.out]; exact cutT_cut ts 20 120
  have hrl : (readR L).1.length ≤ 20 := by
    by_cases h : (readR L).2 = 0
    · rw [readR_le L h, HN.out]; exact HN20.out
    · have : (readR L).1 = [] := readR_none L h
      rw [this]; exact Nat.zero_le _
  have hL20 : L.length ≤ 20 := by rw [HN.out]; exact HN20.out
  have hG : ∀ W P, FrS w B o la N lcp L q Z P W → TRd W o.ga o.gn o.gc gs := fun W P h => HA.out.2.1.g.below (by rw [HBz.out]; exact h.st.bl)
  have cT2 : Hid (∀ W P, FrS w B o la N lcp L q Z P W → Calls Tryd.prog 14 #[.slice la N lcp, .int .i64 20, .int .i64 120] W fun e W' => ∃ a c, e = .returned (.slice a N c) ∧ TRd W' a N c L ∧ Below W.heap.size W W') := fun W P h =>
    (texts_any la N lcp L 20 120 W h.l (by omega) (by omega)).mono (fun e W' hh => by
      rw [hL2, HN.out] at hh
      obtain ⟨v, rfl, ho, hb⟩ := hh
      obtain ⟨a, c, rfl, hr⟩ := TRd.ofOwn ho
      exact ⟨a, c, rfl, hr, hb⟩)
  have cOld : Hid (∀ W a c, FrS w B o la N lcp L q Z (pl0 3 100) W → TRd W a N c L → Calls Tryd.prog 15 #[.pointer (some ⟨q, 0, none⟩), .string ⟨#[111, 108, 100]⟩, .slice a N c] W fun e W' => e = .returned (.int .i64 ((setR (pl0 3 100) wOld L).1 : Nat)) ∧ Hid (FrS w B o la N lcp L q Z (setR (pl0 3 100) wOld L).2 W')) := fun W a c h hr =>
    (st_set h.st wOld a N c L (by decide) hr (by have := HN20.out; omega) (fun t ht => by have := hLs t ht; omega) (by show 0 < 900000; omega) (hTw.out W h.st.bl)).mono (fun e W' hh => ⟨hh.1, h.turn hh.2.out.1 hh.2.out.2⟩)
  have cNew : Hid ((readR L).2 = 0 → ∀ W a c, FrS w B o la N lcp L q Z (frP L) W → TRd W a (1 + N) c (FT :: L) → Calls Tryd.prog 15 #[.pointer (some ⟨q, 0, none⟩), .string ⟨#[110, 101, 119]⟩, .slice a (1 + N) c] W fun e W' => e = .returned (.int .i64 0) ∧ Hid (FrS w B o la N lcp L q Z (putP (frP L) wNew (⟨al, ii, !ii, wAll, []⟩ :: (readR L).1)) W')) := fun hz W a c h hr => by
    rw [← HFT.out] at hr
    have := st_set h.st wNew a (1 + N) c (frontT al ii :: L) (by decide) hr (by have := HN20.out; omega) (fun t ht => by
      rcases List.mem_cons.1 ht with e | e
      · rw [e]; have := front_len al ii; omega
      · have := hLs t e; omega) (by show 1 < 900000; omega) (hTw.out W h.st.bl)
    rw [fr_new L al ii hL20 hz] at this
    exact this.mono (fun e W' hh => ⟨hh.1, h.turn hh.2.out.1 hh.2.out.2⟩)
  have cAl : ∀ (s : By) (i : Bool) (rs : List Rul) (P : Pl), s.length ≤ 1000000 → P.us = [] → heldR P s = rs → rs.length ≤ 21 → ∀ W, FrS w B o la N lcp L q Z P W → Calls Tryd.prog 16 #[.pointer (some ⟨q, 0, none⟩), .string (ba s), .bool i, .string (ba o.c), .slice o.ga o.gn o.gc, .string (ba o.s)] W fun e W' => e = .returned (.bool (allowsR ⟨i, o.c, gs, o.s⟩ rs)) ∧ Hid (FrS w B o la N lcp L q Z P W' ∧ Below W.heap.size W W') := fun s i rs P hs hu hh hl W h => by
    have := st_allows h.st s ⟨i, o.c, gs, o.s⟩ o.ga o.gn o.gc hs (by rw [hu]; exact Nat.zero_le _) (hG W P h) HA.out.2.1.s (by rw [hh]; omega)
    rw [hh] at this
    exact this.mono (fun e W' hh => ⟨hh.1, h.below hh.2.out.2, hh.2.out.2⟩)
  have cA1 : Hid (∀ W, FrS w B o la N lcp L q Z (putP (frP L) wNew (⟨al, ii, !ii, wAll, []⟩ :: (readR L).1)) W → Calls Tryd.prog 16 #[.pointer (some ⟨q, 0, none⟩), .string ⟨#[110, 101, 119]⟩, .bool ii, .string (ba o.c), .slice o.ga o.gn o.gc, .string (ba o.s)] W fun e W' => e = .returned (.bool al) ∧ Hid (FrS w B o la N lcp L q Z (putP (frP L) wNew (⟨al, ii, !ii, wAll, []⟩ :: (readR L).1)) W' ∧ Below W.heap.size W W')) := fun W h => by
    have := cAl wNew ii _ _ (by decide) rfl (fr_held_new L ⟨al, ii, !ii, wAll, []⟩) (by simp; omega) W h
    rw [fr_same al ii ⟨ii, o.c, gs, o.s⟩ _ rfl] at this
    exact this
  have cA2 : Hid (∀ W, FrS w B o la N lcp L q Z (putP (frP L) wNew (⟨al, ii, !ii, wAll, []⟩ :: (readR L).1)) W → Calls Tryd.prog 16 #[.pointer (some ⟨q, 0, none⟩), .string ⟨#[110, 101, 119]⟩, .bool (!ii), .string (ba o.c), .slice o.ga o.gn o.gc, .string (ba o.s)] W fun e W' => e = .returned (.bool (allowsR ⟨!ii, o.c, gs, o.s⟩ (readR L).1)) ∧ Hid (FrS w B o la N lcp L q Z (putP (frP L) wNew (⟨al, ii, !ii, wAll, []⟩ :: (readR L).1)) W' ∧ Below W.heap.size W W')) := fun W h => by
    have := cAl wNew (!ii) _ _ (by decide) rfl (fr_held_new L ⟨al, ii, !ii, wAll, []⟩) (by simp; omega) W h
    rw [fr_other al ii ⟨!ii, o.c, gs, o.s⟩ _ rfl] at this
    exact this
  have cA3 : Hid (∀ W, FrS w B o la N lcp L q Z (putP (frP L) wNew (⟨al, ii, !ii, wAll, []⟩ :: (readR L).1)) W → Calls Tryd.prog 16 #[.pointer (some ⟨q, 0, none⟩), .string ⟨#[111, 108, 100]⟩, .bool (!ii), .string (ba o.c), .slice o.ga o.gn o.gc, .string (ba o.s)] W fun e W' => e = .returned (.bool (allowsR ⟨!ii, o.c, gs, o.s⟩ (readR L).1)) ∧ Hid (FrS w B o la N lcp L q Z (putP (frP L) wNew (⟨al, ii, !ii, wAll, []⟩ :: (readR L).1)) W' ∧ Below W.heap.size W W')) := fun W h =>
    cAl wOld (!ii) _ _ (by decide) rfl (fr_held_old L ⟨al, ii, !ii, wAll, []⟩) (by omega) W h
  have HO : Hid (setR (pl0 3 100) wOld L = if (readR L).2 = 0 then (0, frP L) else ((readR L).2, pl0 3 100)) := fr_old L hL20
  clear cAl hG hrl hLs hL2 hL20 HA hTw HL
  rw [Hal.out, Hii.out]
  generalize (allowsR ⟨!ii, o.c, gs, o.s⟩ (readR L).1) = R at *
  by_cases hz : (readR L).2 = 0
  · rw [HO.out, if_pos hz] at cOld
    have cNew2 : Hid _ := cNew.out hz
    clear cNew HO hz
    have HSZ : Hid (∀ P W, FrS w B o la N lcp L q Z P W → B ≤ W.heap.size ∧ Below B w W) := fun P W h => ⟨h.st.sz, h.st.bl⟩
    generalize (readR L).1 = rs at *
    obtain ⟨P2, HP2⟩ : ∃ P2, Hid (putP (frP L) wNew (⟨al, ii, !ii, wAll, []⟩ :: rs) = P2) := ⟨_, rfl⟩
    rw [HP2.out] at cNew2 cA1 cA2 cA3
    clear HP2
    cases al <;> cases ii
    case false.false =>
      go_upto_region 12 with fail
      first
        | rw [show ((⟨#[100, 101, 110, 121, 32]⟩ : ByteArray) ++ ⟨#[111, 117, 116, 32, 97, 108, 108]⟩) = ba FT from by rw [← HFT.out]; rfl]
        | rw [show ((⟨#[100, 101, 110, 121, 32]⟩ : ByteArray) ++ ⟨#[105, 110, 32, 97, 108, 108]⟩) = ba FT from by rw [← HFT.out]; rfl]
        | rw [show ((⟨#[97, 108, 108, 111, 119, 32]⟩ : ByteArray) ++ ⟨#[111, 117, 116, 32, 97, 108, 108]⟩) = ba FT from by rw [← HFT.out]; rfl]
        | rw [show ((⟨#[97, 108, 108, 111, 119, 32]⟩ : ByteArray) ++ ⟨#[105, 110, 32, 97, 108, 108]⟩) = ba FT from by rw [← HFT.out]; rfl]
      have cT3 := cT2.out w3 _ S3.out
      go_upto_region 14 with (first
        | (go_at_call 14; refine cT3.mono ?_; clear cT3; rintro e w4 ⟨a4, c4, rfl, t4, hb4⟩; have S4 : Hid _ := S3.out.below hb4; have cS := cOld.out w4 a4 c4 S4.out t4; clear t4 hb4)
        | (go_at_call 15; refine cS.mono ?_; clear cS; rintro e w5 ⟨rfl, S5⟩))
      have own5 := own_built w5 #[.string (ba FT)] 9 (by show 1 ≤ 1000000; omega)
      go_upto_region 16 with (first
        | (at_builtin; refine wp_appS rfl (.tmp 48) (.tmp 49) rfl w5.heap.size (.slice (some ⟨w5.heap.size, 0, none⟩) 1 1) 1 [FT] rfl own5 la N lcp L rfl (S5.out.below (below1 _ _)).l (by have := HN20.out; omega) (by simp) ?_; intro v6 w6 o6 k6; obtain ⟨a6, c6, hv6, t6⟩ := TRd.ofOwn o6; subst hv6; have S6 : Hid _ := S5.out.below ((below1 w5 (.cells #[.string (ba FT)] 9)).trans (k6.below (by simp) (fun i e => by cases e; exact Nat.le_refl _))); have cS6 := cNew2.out w6 a6 c6 S6.out t6)
        | (go_at_call 15; refine cS6.mono ?_; clear cS6; rintro e w7 ⟨rfl, S7⟩))
      have S8 : Hid _ := S7.out.below (Below.refl _ _).drew
      clear cT2 cOld cNew2 S3 S4 S5 S6 S7 own5 o6 k6 t6
      refine wp_region_lx (fun w' => FrS w B o la N lcp L q Z P2 w') [] 35 (by kernel_rfl) (by kernel_rfl) ?_
      generalize w7.drew = X8 at S8 ⊢
      have HS8 := S8.out
      refine lx_rd 0 ?vA00 (by kernel_rfl) (fun _ _ d _ _ h => by cases d <;> exact h) (by kernel_rfl) HS8 rfl rfl rfl (fun w' hS => ?hA00) ?_
      case hA00 => first | (go_simp; rfl) | go_simp
      simp only [List.setIfInBounds_toArray, List.set_cons_zero, List.set_cons_succ]
      refine lx_rd 1 ?vA01 (by kernel_rfl) (fun _ _ d _ _ h => by cases d <;> exact h) (by kernel_rfl) HS8 rfl rfl rfl (fun w' hS => ?hA01) ?_
      case hA01 => first | (go_simp; rfl) | go_simp
      simp only [List.setIfInBounds_toArray, List.set_cons_zero, List.set_cons_succ]
      refine lx_rd 2 (.pointer (some ⟨B + 1, 4, none⟩)) (by kernel_rfl) (fun _ _ d _ _ h => by cases d <;> exact h) (by kernel_rfl) HS8 rfl rfl rfl (fun w' hS => ?hA02) ?_
      case hA02 => first | (go_simp; rfl) | go_simp
      simp only [List.setIfInBounds_toArray, List.set_cons_zero, List.set_cons_succ]
      refine lx_rd 3 (.string (ba o.c)) (by kernel_rfl) (fun _ _ d _ _ h => by cases d <;> exact h) (by kernel_rfl) HS8 rfl rfl rfl (fun w' hS => ?hA03) ?_
      case hA03 => have q0 := hS.c4; first | (go_simp; rfl) | go_simp
      simp only [List.setIfInBounds_toArray, List.set_cons_zero, List.set_cons_succ]
      refine lx_rd 4 (.pointer (some ⟨B + 1, 5, none⟩)) (by kernel_rfl) (fun _ _ d _ _ h => by cases d <;> exact h) (by kernel_rfl) HS8 rfl rfl rfl (fun w' hS => ?hA04) ?_
      case hA04 => first | (go_simp; rfl) | go_simp
      simp only [List.setIfInBounds_toArray, List.set_cons_zero, List.set_cons_succ]
      refine lx_rd 5 (.slice o.ga o.gn o.gc) (by kernel_rfl) (fun _ _ d _ _ h => by cases d <;> exact h) (by kernel_rfl) HS8 rfl rfl rfl (fun w' hS => ?hA05) ?_
      case hA05 => have q0 := hS.c5; first | (go_simp; rfl) | go_simp
      simp only [List.setIfInBounds_toArray, List.set_cons_zero, List.set_cons_succ]
      refine lx_rd 6 (.pointer (some ⟨B + 1, 6, none⟩)) (by kernel_rfl) (fun _ _ d _ _ h => by cases d <;> exact h) (by kernel_rfl) HS8 rfl rfl rfl (fun w' hS => ?hA06) ?_
      case hA06 => first | (go_simp; rfl) | go_simp
      simp only [List.setIfInBounds_toArray, List.set_cons_zero, List.set_cons_succ]
      refine lx_rd 7 (.string (ba o.s)) (by kernel_rfl) (fun _ _ d _ _ h => by cases d <;> exact h) (by kernel_rfl) HS8 rfl rfl rfl (fun w' hS => ?hA07) ?_
      case hA07 => have q0 := hS.c6; first | (go_simp; rfl) | go_simp
      simp only [List.setIfInBounds_toArray, List.set_cons_zero, List.set_cons_succ]
      refine lx_rd 9 ?vA09 (by kernel_rfl) (fun _ _ d _ _ h => by cases d <;> exact h) (by kernel_rfl) HS8 rfl rfl rfl (fun w' hS => ?hA09) ?_
      case hA09 => first | (go_simp; rfl) | go_simp
      simp only [List.setIfInBounds_toArray, List.set_cons_zero, List.set_cons_succ]
      refine lx_one 8 (by kernel_rfl) (stepT_call 16 ?ac0 rfl rfl rfl ?rc0 ?_)
      case rc0 => first | (go_simp; rfl) | go_simp
      refine (cA1.out X8 HS8).mono ?_
      rintro e X9 ⟨rfl, S9⟩
      have HS9 := S9.out.1
      refine ⟨_, rfl, fun _ => HS9, ?_⟩
      simp only [lxa, lxb, lxc]
      refine lx_rd 10 (.bool true) (by kernel_rfl) (fun _ _ d _ _ h => by cases d <;> exact h) (by kernel_rfl) HS9 rfl rfl rfl (fun w' hS => ?hB010) ?_
      case hB010 => first | (go_simp; rfl) | go_simp
      simp only [List.setIfInBounds_toArray, List.set_cons_zero, List.set_cons_succ]
      refine lx_rd 11 (.bool true) (by kernel_rfl) (fun _ _ d _ _ h => by cases d <;> exact h) (by kernel_rfl) HS9 rfl rfl rfl (fun w' hS => ?hB011) ?_
      case hB011 => first | (go_simp; rfl) | go_simp
      simp only [List.setIfInBounds_toArray, List.set_cons_zero, List.set_cons_succ]
      refine lx_rd 12 ?vB012 (by kernel_rfl) (fun _ _ d _ _ h => by cases d <;> exact h) (by kernel_rfl) HS9 rfl rfl rfl (fun w' hS => ?hB012) ?_
      case hB012 => first | (go_simp; rfl) | go_simp
      simp only [List.setIfInBounds_toArray, List.set_cons_zero, List.set_cons_succ]
      refine lx_rd 13 ?vB013 (by kernel_rfl) (fun _ _ d _ _ h => by cases d <;> exact h) (by kernel_rfl) HS9 rfl rfl rfl (fun w' hS => ?hB013) ?_
      case hB013 => first | (go_simp; rfl) | go_simp
      simp only [List.setIfInBounds_toArray, List.set_cons_zero, List.set_cons_succ]
      refine lx_rd 14 ?vB014 (by kernel_rfl) (fun _ _ d _ _ h => by cases d <;> exact h) (by kernel_rfl) HS9 rfl rfl rfl (fun w' hS => ?hB014) ?_
      case hB014 => first | (go_simp; rfl) | go_simp
      simp only [List.setIfInBounds_toArray, List.set_cons_zero, List.set_cons_succ]
      refine lx_rd 15 (.pointer (some ⟨B + 1, 4, none⟩)) (by kernel_rfl) (fun _ _ d _ _ h => by cases d <;> exact h) (by kernel_rfl) HS9 rfl rfl rfl (fun w' hS => ?hB015) ?_
      case hB015 => first | (go_simp; rfl) | go_simp
      simp only [List.setIfInBounds_toArray, List.set_cons_zero, List.set_cons_succ]
      refine lx_rd 16 (.string (ba o.c)) (by kernel_rfl) (fun _ _ d _ _ h => by cases d <;> exact h) (by kernel_rfl) HS9 rfl rfl rfl (fun w' hS => ?hB016) ?_
      case hB016 => have q0 := hS.c4; first | (go_simp; rfl) | go_simp
      simp only [List.setIfInBounds_toArray, List.set_cons_zero, List.set_cons_succ]
      refine lx_rd 17 (.pointer (some ⟨B + 1, 5, none⟩)) (by kernel_rfl) (fun _ _ d _ _ h => by cases d <;> exact h) (by kernel_rfl) HS9 rfl rfl rfl (fun w' hS => ?hB017) ?_
      case hB017 => first | (go_simp; rfl) | go_simp
      simp only [List.setIfInBounds_toArray, List.set_cons_zero, List.set_cons_succ]
      refine lx_rd 18 (.slice o.ga o.gn o.gc) (by kernel_rfl) (fun _ _ d _ _ h => by cases d <;> exact h) (by kernel_rfl) HS9 rfl rfl rfl (fun w' hS => ?hB018) ?_
      case hB018 => have q0 := hS.c5; first | (go_simp; rfl) | go_simp
      simp only [List.setIfInBounds_toArray, List.set_cons_zero, List.set_cons_succ]
      refine lx_rd 19 (.pointer (some ⟨B + 1, 6, none⟩)) (by kernel_rfl) (fun _ _ d _ _ h => by cases d <;> exact h) (by kernel_rfl) HS9 rfl rfl rfl (fun w' hS => ?hB019) ?_
      case hB019 => first | (go_simp; rfl) | go_simp
      simp only [List.setIfInBounds_toArray, List.set_cons_zero, List.set_cons_succ]
      refine lx_rd 20 (.string (ba o.s)) (by kernel_rfl) (fun _ _ d _ _ h => by cases d <;> exact h) (by kernel_rfl) HS9 rfl rfl rfl (fun w' hS => ?hB020) ?_
      case hB020 => have q0 := hS.c6; first | (go_simp; rfl) | go_simp
      simp only [List.setIfInBounds_toArray, List.set_cons_zero, List.set_cons_succ]
      refine lx_rd 22 ?vB022 (by kernel_rfl) (fun _ _ d _ _ h => by cases d <;> exact h) (by kernel_rfl) HS9 rfl rfl rfl (fun w' hS => ?hB022) ?_
      case hB022 => first | (go_simp; rfl) | go_simp
      simp only [List.setIfInBounds_toArray, List.set_cons_zero, List.set_cons_succ]
      refine lx_rd 23 ?vB023 (by kernel_rfl) (fun _ _ d _ _ h => by cases d <;> exact h) (by kernel_rfl) HS9 rfl rfl rfl (fun w' hS => ?hB023) ?_
      case hB023 => first | (go_simp; rfl) | go_simp
      simp only [List.setIfInBounds_toArray, List.set_cons_zero, List.set_cons_succ]
      refine lx_rd 24 ?vB024 (by kernel_rfl) (fun _ _ d _ _ h => by cases d <;> exact h) (by kernel_rfl) HS9 rfl rfl rfl (fun w' hS => ?hB024) ?_
      case hB024 => first | (go_simp; rfl) | go_simp
      simp only [List.setIfInBounds_toArray, List.set_cons_zero, List.set_cons_succ]
      refine lx_rd 25 (.pointer (some ⟨B + 1, 4, none⟩)) (by kernel_rfl) (fun _ _ d _ _ h => by cases d <;> exact h) (by kernel_rfl) HS9 rfl rfl rfl (fun w' hS => ?hB025) ?_
      case hB025 => first | (go_simp; rfl) | go_simp
      simp only [List.setIfInBounds_toArray, List.set_cons_zero, List.set_cons_succ]
      refine lx_rd 26 (.string (ba o.c)) (by kernel_rfl) (fun _ _ d _ _ h => by cases d <;> exact h) (by kernel_rfl) HS9 rfl rfl rfl (fun w' hS => ?hB026) ?_
      case hB026 => have q0 := hS.c4; first | (go_simp; rfl) | go_simp
      simp only [List.setIfInBounds_toArray, List.set_cons_zero, List.set_cons_succ]
      refine lx_rd 27 (.pointer (some ⟨B + 1, 5, none⟩)) (by kernel_rfl) (fun _ _ d _ _ h => by cases d <;> exact h) (by kernel_rfl) HS9 rfl rfl rfl (fun w' hS => ?hB027) ?_
      case hB027 => first | (go_simp; rfl) | go_simp
      simp only [List.setIfInBounds_toArray, List.set_cons_zero, List.set_cons_succ]
      refine lx_rd 28 (.slice o.ga o.gn o.gc) (by kernel_rfl) (fun _ _ d _ _ h => by cases d <;> exact h) (by kernel_rfl) HS9 rfl rfl rfl (fun w' hS => ?hB028) ?_
      case hB028 => have q0 := hS.c5; first | (go_simp; rfl) | go_simp
      simp only [List.setIfInBounds_toArray, List.set_cons_zero, List.set_cons_succ]
      refine lx_rd 29 (.pointer (some ⟨B + 1, 6, none⟩)) (by kernel_rfl) (fun _ _ d _ _ h => by cases d <;> exact h) (by kernel_rfl) HS9 rfl rfl rfl (fun w' hS => ?hB029) ?_
      case hB029 => first | (go_simp; rfl) | go_simp
      simp only [List.setIfInBounds_toArray, List.set_cons_zero, List.set_cons_succ]
      refine lx_rd 30 (.string (ba o.s)) (by kernel_rfl) (fun _ _ d _ _ h => by cases d <;> exact h) (by kernel_rfl) HS9 rfl rfl rfl (fun w' hS => ?hB030) ?_
      case hB030 => have q0 := hS.c6; first | (go_simp; rfl) | go_simp
      simp only [List.setIfInBounds_toArray, List.set_cons_zero, List.set_cons_succ]
      refine lx_one 21 (by kernel_rfl) (stepT_call 16 ?ad0 rfl rfl rfl ?rd0 ?_)
      case rd0 => first | (go_simp; rfl) | go_simp
      refine (cA2.out X9 HS9).mono ?_
      rintro e Xa ⟨rfl, Sa⟩
      have HSa := Sa.out.1
      refine ⟨_, rfl, fun _ => HSa, ?_⟩
      simp only [lxa, lxb, lxc]
      refine lx_one 31 (by kernel_rfl) (stepT_call 16 ?ae0 rfl rfl rfl ?re0 ?_)
      case re0 => first | (go_simp; rfl) | go_simp
      refine (cA3.out Xa HSa).mono ?_
      rintro e Xb ⟨rfl, Sb⟩
      have HSb := Sb.out.1
      refine ⟨_, rfl, fun _ => HSb, ?_⟩
      simp only [lxa, lxb, lxc]
      refine lx_rd 32 (.bool true) (by kernel_rfl) (fun _ _ d _ _ h => by cases d <;> exact h) (by kernel_rfl) HSb rfl rfl rfl (fun w' hS => ?hC032) ?_
      case hC032 => first | (go_simp; rfl) | go_simp
      simp only [List.setIfInBounds_toArray, List.set_cons_zero, List.set_cons_succ]
      refine lx_rd 33 (.bool true) (by kernel_rfl) (fun _ _ d _ _ h => by cases d <;> exact h) (by kernel_rfl) HSb rfl rfl rfl (fun w' hS => ?hC033) ?_
      case hC033 => first | (go_simp; rfl) | go_simp
      simp only [List.setIfInBounds_toArray, List.set_cons_zero, List.set_cons_succ]
      refine lx_rd 34 (.bool true) (by kernel_rfl) (fun _ _ d _ _ h => by cases d <;> exact h) (by kernel_rfl) HSb rfl rfl rfl (fun w' hS => ?hC034) ?_
      case hC034 => first | (go_simp; rfl) | go_simp
      simp only [List.setIfInBounds_toArray, List.set_cons_zero, List.set_cons_succ]
      refine lx_nil (by kernel_rfl) ?_
      have HE : Hid (Below w.heap.size w Xb) := by
        show Below _ _ _
        rw [HBz.out]; exact HSb.st.bl
      clear cA1 cA2 cA3 HS8 HS9 HSa HSb S8 S9 Sa Sb
      go_wp2
      go_ret
      exact ⟨rfl, HE.out⟩
    case false.true =>
      go_upto_region 12 with fail
      first
        | rw [show ((⟨#[100, 101, 110, 121, 32]⟩ : ByteArray) ++ ⟨#[111, 117, 116, 32, 97, 108, 108]⟩) = ba FT from by rw [← HFT.out]; rfl]
        | rw [show ((⟨#[100, 101, 110, 121, 32]⟩ : ByteArray) ++ ⟨#[105, 110, 32, 97, 108, 108]⟩) = ba FT from by rw [← HFT.out]; rfl]
        | rw [show ((⟨#[97, 108, 108, 111, 119, 32]⟩ : ByteArray) ++ ⟨#[111, 117, 116, 32, 97, 108, 108]⟩) = ba FT from by rw [← HFT.out]; rfl]
        | rw [show ((⟨#[97, 108, 108, 111, 119, 32]⟩ : ByteArray) ++ ⟨#[105, 110, 32, 97, 108, 108]⟩) = ba FT from by rw [← HFT.out]; rfl]
      have cT3 := cT2.out w3 _ S3.out
      go_upto_region 14 with (first
        | (go_at_call 14; refine cT3.mono ?_; clear cT3; rintro e w4 ⟨a4, c4, rfl, t4, hb4⟩; have S4 : Hid _ := S3.out.below hb4; have cS := cOld.out w4 a4 c4 S4.out t4; clear t4 hb4)
        | (go_at_call 15; refine cS.mono ?_; clear cS; rintro e w5 ⟨rfl, S5⟩))
      have own5 := own_built w5 #[.string (ba FT)] 9 (by show 1 ≤ 1000000; omega)
      go_upto_region 16 with (first
        | (at_builtin; refine wp_appS rfl (.tmp 48) (.tmp 49) rfl w5.heap.size (.slice (some ⟨w5.heap.size, 0, none⟩) 1 1) 1 [FT] rfl own5 la N lcp L rfl (S5.out.below (below1 _ _)).l (by have := HN20.out; omega) (by simp) ?_; intro v6 w6 o6 k6; obtain ⟨a6, c6, hv6, t6⟩ := TRd.ofOwn o6; subst hv6; have S6 : Hid _ := S5.out.below ((below1 w5 (.cells #[.string (ba FT)] 9)).trans (k6.below (by simp) (fun i e => by cases e; exact Nat.le_refl _))); have cS6 := cNew2.out w6 a6 c6 S6.out t6)
        | (go_at_call 15; refine cS6.mono ?_; clear cS6; rintro e w7 ⟨rfl, S7⟩))
      have S8 : Hid _ := S7.out.below (Below.refl _ _).drew
      clear cT2 cOld cNew2 S3 S4 S5 S6 S7 own5 o6 k6 t6
      refine wp_region_lx (fun w' => FrS w B o la N lcp L q Z P2 w') [] 35 (by kernel_rfl) (by kernel_rfl) ?_
      generalize w7.drew = X8 at S8 ⊢
      have HS8 := S8.out
      refine lx_rd 0 ?vA10 (by kernel_rfl) (fun _ _ d _ _ h => by cases d <;> exact h) (by kernel_rfl) HS8 rfl rfl rfl (fun w' hS => ?hA10) ?_
      case hA10 => first | (go_simp; rfl) | go_simp
      simp only [List.setIfInBounds_toArray, List.set_cons_zero, List.set_cons_succ]
      refine lx_rd 1 ?vA11 (by kernel_rfl) (fun _ _ d _ _ h => by cases d <;> exact h) (by kernel_rfl) HS8 rfl rfl rfl (fun w' hS => ?hA11) ?_
      case hA11 => first | (go_simp; rfl) | go_simp
      simp only [List.setIfInBounds_toArray, List.set_cons_zero, List.set_cons_succ]
      refine lx_rd 2 (.pointer (some ⟨B + 1, 4, none⟩)) (by kernel_rfl) (fun _ _ d _ _ h => by cases d <;> exact h) (by kernel_rfl) HS8 rfl rfl rfl (fun w' hS => ?hA12) ?_
      case hA12 => first | (go_simp; rfl) | go_simp
      simp only [List.setIfInBounds_toArray, List.set_cons_zero, List.set_cons_succ]
      refine lx_rd 3 (.string (ba o.c)) (by kernel_rfl) (fun _ _ d _ _ h => by cases d <;> exact h) (by kernel_rfl) HS8 rfl rfl rfl (fun w' hS => ?hA13) ?_
      case hA13 => have q0 := hS.c4; first | (go_simp; rfl) | go_simp
      simp only [List.setIfInBounds_toArray, List.set_cons_zero, List.set_cons_succ]
      refine lx_rd 4 (.pointer (some ⟨B + 1, 5, none⟩)) (by kernel_rfl) (fun _ _ d _ _ h => by cases d <;> exact h) (by kernel_rfl) HS8 rfl rfl rfl (fun w' hS => ?hA14) ?_
      case hA14 => first | (go_simp; rfl) | go_simp
      simp only [List.setIfInBounds_toArray, List.set_cons_zero, List.set_cons_succ]
      refine lx_rd 5 (.slice o.ga o.gn o.gc) (by kernel_rfl) (fun _ _ d _ _ h => by cases d <;> exact h) (by kernel_rfl) HS8 rfl rfl rfl (fun w' hS => ?hA15) ?_
      case hA15 => have q0 := hS.c5; first | (go_simp; rfl) | go_simp
      simp only [List.setIfInBounds_toArray, List.set_cons_zero, List.set_cons_succ]
      refine lx_rd 6 (.pointer (some ⟨B + 1, 6, none⟩)) (by kernel_rfl) (fun _ _ d _ _ h => by cases d <;> exact h) (by kernel_rfl) HS8 rfl rfl rfl (fun w' hS => ?hA16) ?_
      case hA16 => first | (go_simp; rfl) | go_simp
      simp only [List.setIfInBounds_toArray, List.set_cons_zero, List.set_cons_succ]
      refine lx_rd 7 (.string (ba o.s)) (by kernel_rfl) (fun _ _ d _ _ h => by cases d <;> exact h) (by kernel_rfl) HS8 rfl rfl rfl (fun w' hS => ?hA17) ?_
      case hA17 => have q0 := hS.c6; first | (go_simp; rfl) | go_simp
      simp only [List.setIfInBounds_toArray, List.set_cons_zero, List.set_cons_succ]
      refine lx_rd 9 ?vA19 (by kernel_rfl) (fun _ _ d _ _ h => by cases d <;> exact h) (by kernel_rfl) HS8 rfl rfl rfl (fun w' hS => ?hA19) ?_
      case hA19 => first | (go_simp; rfl) | go_simp
      simp only [List.setIfInBounds_toArray, List.set_cons_zero, List.set_cons_succ]
      refine lx_one 8 (by kernel_rfl) (stepT_call 16 ?ac1 rfl rfl rfl ?rc1 ?_)
      case rc1 => first | (go_simp; rfl) | go_simp
      refine (cA1.out X8 HS8).mono ?_
      rintro e X9 ⟨rfl, S9⟩
      have HS9 := S9.out.1
      refine ⟨_, rfl, fun _ => HS9, ?_⟩
      simp only [lxa, lxb, lxc]
      refine lx_rd 10 (.bool true) (by kernel_rfl) (fun _ _ d _ _ h => by cases d <;> exact h) (by kernel_rfl) HS9 rfl rfl rfl (fun w' hS => ?hB110) ?_
      case hB110 => first | (go_simp; rfl) | go_simp
      simp only [List.setIfInBounds_toArray, List.set_cons_zero, List.set_cons_succ]
      refine lx_rd 11 (.bool true) (by kernel_rfl) (fun _ _ d _ _ h => by cases d <;> exact h) (by kernel_rfl) HS9 rfl rfl rfl (fun w' hS => ?hB111) ?_
      case hB111 => first | (go_simp; rfl) | go_simp
      simp only [List.setIfInBounds_toArray, List.set_cons_zero, List.set_cons_succ]
      refine lx_rd 12 ?vB112 (by kernel_rfl) (fun _ _ d _ _ h => by cases d <;> exact h) (by kernel_rfl) HS9 rfl rfl rfl (fun w' hS => ?hB112) ?_
      case hB112 => first | (go_simp; rfl) | go_simp
      simp only [List.setIfInBounds_toArray, List.set_cons_zero, List.set_cons_succ]
      refine lx_rd 13 ?vB113 (by kernel_rfl) (fun _ _ d _ _ h => by cases d <;> exact h) (by kernel_rfl) HS9 rfl rfl rfl (fun w' hS => ?hB113) ?_
      case hB113 => first | (go_simp; rfl) | go_simp
      simp only [List.setIfInBounds_toArray, List.set_cons_zero, List.set_cons_succ]
      refine lx_rd 14 ?vB114 (by kernel_rfl) (fun _ _ d _ _ h => by cases d <;> exact h) (by kernel_rfl) HS9 rfl rfl rfl (fun w' hS => ?hB114) ?_
      case hB114 => first | (go_simp; rfl) | go_simp
      simp only [List.setIfInBounds_toArray, List.set_cons_zero, List.set_cons_succ]
      refine lx_rd 15 (.pointer (some ⟨B + 1, 4, none⟩)) (by kernel_rfl) (fun _ _ d _ _ h => by cases d <;> exact h) (by kernel_rfl) HS9 rfl rfl rfl (fun w' hS => ?hB115) ?_
      case hB115 => first | (go_simp; rfl) | go_simp
      simp only [List.setIfInBounds_toArray, List.set_cons_zero, List.set_cons_succ]
      refine lx_rd 16 (.string (ba o.c)) (by kernel_rfl) (fun _ _ d _ _ h => by cases d <;> exact h) (by kernel_rfl) HS9 rfl rfl rfl (fun w' hS => ?hB116) ?_
      case hB116 => have q0 := hS.c4; first | (go_simp; rfl) | go_simp
      simp only [List.setIfInBounds_toArray, List.set_cons_zero, List.set_cons_succ]
      refine lx_rd 17 (.pointer (some ⟨B + 1, 5, none⟩)) (by kernel_rfl) (fun _ _ d _ _ h => by cases d <;> exact h) (by kernel_rfl) HS9 rfl rfl rfl (fun w' hS => ?hB117) ?_
      case hB117 => first | (go_simp; rfl) | go_simp
      simp only [List.setIfInBounds_toArray, List.set_cons_zero, List.set_cons_succ]
      refine lx_rd 18 (.slice o.ga o.gn o.gc) (by kernel_rfl) (fun _ _ d _ _ h => by cases d <;> exact h) (by kernel_rfl) HS9 rfl rfl rfl (fun w' hS => ?hB118) ?_
      case hB118 => have q0 := hS.c5; first | (go_simp; rfl) | go_simp
      simp only [List.setIfInBounds_toArray, List.set_cons_zero, List.set_cons_succ]
      refine lx_rd 19 (.pointer (some ⟨B + 1, 6, none⟩)) (by kernel_rfl) (fun _ _ d _ _ h => by cases d <;> exact h) (by kernel_rfl) HS9 rfl rfl rfl (fun w' hS => ?hB119) ?_
      case hB119 => first | (go_simp; rfl) | go_simp
      simp only [List.setIfInBounds_toArray, List.set_cons_zero, List.set_cons_succ]
      refine lx_rd 20 (.string (ba o.s)) (by kernel_rfl) (fun _ _ d _ _ h => by cases d <;> exact h) (by kernel_rfl) HS9 rfl rfl rfl (fun w' hS => ?hB120) ?_
      case hB120 => have q0 := hS.c6; first | (go_simp; rfl) | go_simp
      simp only [List.setIfInBounds_toArray, List.set_cons_zero, List.set_cons_succ]
      refine lx_rd 22 ?vB122 (by kernel_rfl) (fun _ _ d _ _ h => by cases d <;> exact h) (by kernel_rfl) HS9 rfl rfl rfl (fun w' hS => ?hB122) ?_
      case hB122 => first | (go_simp; rfl) | go_simp
      simp only [List.setIfInBounds_toArray, List.set_cons_zero, List.set_cons_succ]
      refine lx_rd 23 ?vB123 (by kernel_rfl) (fun _ _ d _ _ h => by cases d <;> exact h) (by kernel_rfl) HS9 rfl rfl rfl (fun w' hS => ?hB123) ?_
      case hB123 => first | (go_simp; rfl) | go_simp
      simp only [List.setIfInBounds_toArray, List.set_cons_zero, List.set_cons_succ]
      refine lx_rd 24 ?vB124 (by kernel_rfl) (fun _ _ d _ _ h => by cases d <;> exact h) (by kernel_rfl) HS9 rfl rfl rfl (fun w' hS => ?hB124) ?_
      case hB124 => first | (go_simp; rfl) | go_simp
      simp only [List.setIfInBounds_toArray, List.set_cons_zero, List.set_cons_succ]
      refine lx_rd 25 (.pointer (some ⟨B + 1, 4, none⟩)) (by kernel_rfl) (fun _ _ d _ _ h => by cases d <;> exact h) (by kernel_rfl) HS9 rfl rfl rfl (fun w' hS => ?hB125) ?_
      case hB125 => first | (go_simp; rfl) | go_simp
      simp only [List.setIfInBounds_toArray, List.set_cons_zero, List.set_cons_succ]
      refine lx_rd 26 (.string (ba o.c)) (by kernel_rfl) (fun _ _ d _ _ h => by cases d <;> exact h) (by kernel_rfl) HS9 rfl rfl rfl (fun w' hS => ?hB126) ?_
      case hB126 => have q0 := hS.c4; first | (go_simp; rfl) | go_simp
      simp only [List.setIfInBounds_toArray, List.set_cons_zero, List.set_cons_succ]
      refine lx_rd 27 (.pointer (some ⟨B + 1, 5, none⟩)) (by kernel_rfl) (fun _ _ d _ _ h => by cases d <;> exact h) (by kernel_rfl) HS9 rfl rfl rfl (fun w' hS => ?hB127) ?_
      case hB127 => first | (go_simp; rfl) | go_simp
      simp only [List.setIfInBounds_toArray, List.set_cons_zero, List.set_cons_succ]
      refine lx_rd 28 (.slice o.ga o.gn o.gc) (by kernel_rfl) (fun _ _ d _ _ h => by cases d <;> exact h) (by kernel_rfl) HS9 rfl rfl rfl (fun w' hS => ?hB128) ?_
      case hB128 => have q0 := hS.c5; first | (go_simp; rfl) | go_simp
      simp only [List.setIfInBounds_toArray, List.set_cons_zero, List.set_cons_succ]
      refine lx_rd 29 (.pointer (some ⟨B + 1, 6, none⟩)) (by kernel_rfl) (fun _ _ d _ _ h => by cases d <;> exact h) (by kernel_rfl) HS9 rfl rfl rfl (fun w' hS => ?hB129) ?_
      case hB129 => first | (go_simp; rfl) | go_simp
      simp only [List.setIfInBounds_toArray, List.set_cons_zero, List.set_cons_succ]
      refine lx_rd 30 (.string (ba o.s)) (by kernel_rfl) (fun _ _ d _ _ h => by cases d <;> exact h) (by kernel_rfl) HS9 rfl rfl rfl (fun w' hS => ?hB130) ?_
      case hB130 => have q0 := hS.c6; first | (go_simp; rfl) | go_simp
      simp only [List.setIfInBounds_toArray, List.set_cons_zero, List.set_cons_succ]
      refine lx_one 21 (by kernel_rfl) (stepT_call 16 ?ad1 rfl rfl rfl ?rd1 ?_)
      case rd1 => first | (go_simp; rfl) | go_simp
      refine (cA2.out X9 HS9).mono ?_
      rintro e Xa ⟨rfl, Sa⟩
      have HSa := Sa.out.1
      refine ⟨_, rfl, fun _ => HSa, ?_⟩
      simp only [lxa, lxb, lxc]
      refine lx_one 31 (by kernel_rfl) (stepT_call 16 ?ae1 rfl rfl rfl ?re1 ?_)
      case re1 => first | (go_simp; rfl) | go_simp
      refine (cA3.out Xa HSa).mono ?_
      rintro e Xb ⟨rfl, Sb⟩
      have HSb := Sb.out.1
      refine ⟨_, rfl, fun _ => HSb, ?_⟩
      simp only [lxa, lxb, lxc]
      refine lx_rd 32 (.bool true) (by kernel_rfl) (fun _ _ d _ _ h => by cases d <;> exact h) (by kernel_rfl) HSb rfl rfl rfl (fun w' hS => ?hC132) ?_
      case hC132 => first | (go_simp; rfl) | go_simp
      simp only [List.setIfInBounds_toArray, List.set_cons_zero, List.set_cons_succ]
      refine lx_rd 33 (.bool true) (by kernel_rfl) (fun _ _ d _ _ h => by cases d <;> exact h) (by kernel_rfl) HSb rfl rfl rfl (fun w' hS => ?hC133) ?_
      case hC133 => first | (go_simp; rfl) | go_simp
      simp only [List.setIfInBounds_toArray, List.set_cons_zero, List.set_cons_succ]
      refine lx_rd 34 (.bool true) (by kernel_rfl) (fun _ _ d _ _ h => by cases d <;> exact h) (by kernel_rfl) HSb rfl rfl rfl (fun w' hS => ?hC134) ?_
      case hC134 => first | (go_simp; rfl) | go_simp
      simp only [List.setIfInBounds_toArray, List.set_cons_zero, List.set_cons_succ]
      refine lx_nil (by kernel_rfl) ?_
      have HE : Hid (Below w.heap.size w Xb) := by
        show Below _ _ _
        rw [HBz.out]; exact HSb.st.bl
      clear cA1 cA2 cA3 HS8 HS9 HSa HSb S8 S9 Sa Sb
      go_wp2
      go_ret
      exact ⟨rfl, HE.out⟩
    case true.false =>
      go_upto_region 12 with fail
      first
        | rw [show ((⟨#[100, 101, 110, 121, 32]⟩ : ByteArray) ++ ⟨#[111, 117, 116, 32, 97, 108, 108]⟩) = ba FT from by rw [← HFT.out]; rfl]
        | rw [show ((⟨#[100, 101, 110, 121, 32]⟩ : ByteArray) ++ ⟨#[105, 110, 32, 97, 108, 108]⟩) = ba FT from by rw [← HFT.out]; rfl]
        | rw [show ((⟨#[97, 108, 108, 111, 119, 32]⟩ : ByteArray) ++ ⟨#[111, 117, 116, 32, 97, 108, 108]⟩) = ba FT from by rw [← HFT.out]; rfl]
        | rw [show ((⟨#[97, 108, 108, 111, 119, 32]⟩ : ByteArray) ++ ⟨#[105, 110, 32, 97, 108, 108]⟩) = ba FT from by rw [← HFT.out]; rfl]
      have cT3 := cT2.out w3 _ S3.out
      go_upto_region 14 with (first
        | (go_at_call 14; refine cT3.mono ?_; clear cT3; rintro e w4 ⟨a4, c4, rfl, t4, hb4⟩; have S4 : Hid _ := S3.out.below hb4; have cS := cOld.out w4 a4 c4 S4.out t4; clear t4 hb4)
        | (go_at_call 15; refine cS.mono ?_; clear cS; rintro e w5 ⟨rfl, S5⟩))
      have own5 := own_built w5 #[.string (ba FT)] 9 (by show 1 ≤ 1000000; omega)
      go_upto_region 16 with (first
        | (at_builtin; refine wp_appS rfl (.tmp 48) (.tmp 49) rfl w5.heap.size (.slice (some ⟨w5.heap.size, 0, none⟩) 1 1) 1 [FT] rfl own5 la N lcp L rfl (S5.out.below (below1 _ _)).l (by have := HN20.out; omega) (by simp) ?_; intro v6 w6 o6 k6; obtain ⟨a6, c6, hv6, t6⟩ := TRd.ofOwn o6; subst hv6; have S6 : Hid _ := S5.out.below ((below1 w5 (.cells #[.string (ba FT)] 9)).trans (k6.below (by simp) (fun i e => by cases e; exact Nat.le_refl _))); have cS6 := cNew2.out w6 a6 c6 S6.out t6)
        | (go_at_call 15; refine cS6.mono ?_; clear cS6; rintro e w7 ⟨rfl, S7⟩))
      have S8 : Hid _ := S7.out.below (Below.refl _ _).drew
      clear cT2 cOld cNew2 S3 S4 S5 S6 S7 own5 o6 k6 t6
      refine wp_region_lx (fun w' => FrS w B o la N lcp L q Z P2 w') [] 35 (by kernel_rfl) (by kernel_rfl) ?_
      generalize w7.drew = X8 at S8 ⊢
      have HS8 := S8.out
      refine lx_rd 0 ?vA20 (by kernel_rfl) (fun _ _ d _ _ h => by cases d <;> exact h) (by kernel_rfl) HS8 rfl rfl rfl (fun w' hS => ?hA20) ?_
      case hA20 => first | (go_simp; rfl) | go_simp
      simp only [List.setIfInBounds_toArray, List.set_cons_zero, List.set_cons_succ]
      refine lx_rd 1 ?vA21 (by kernel_rfl) (fun _ _ d _ _ h => by cases d <;> exact h) (by kernel_rfl) HS8 rfl rfl rfl (fun w' hS => ?hA21) ?_
      case hA21 => first | (go_simp; rfl) | go_simp
      simp only [List.setIfInBounds_toArray, List.set_cons_zero, List.set_cons_succ]
      refine lx_rd 2 (.pointer (some ⟨B + 1, 4, none⟩)) (by kernel_rfl) (fun _ _ d _ _ h => by cases d <;> exact h) (by kernel_rfl) HS8 rfl rfl rfl (fun w' hS => ?hA22) ?_
      case hA22 => first | (go_simp; rfl) | go_simp
      simp only [List.setIfInBounds_toArray, List.set_cons_zero, List.set_cons_succ]
      refine lx_rd 3 (.string (ba o.c)) (by kernel_rfl) (fun _ _ d _ _ h => by cases d <;> exact h) (by kernel_rfl) HS8 rfl rfl rfl (fun w' hS => ?hA23) ?_
      case hA23 => have q0 := hS.c4; first | (go_simp; rfl) | go_simp
      simp only [List.setIfInBounds_toArray, List.set_cons_zero, List.set_cons_succ]
      refine lx_rd 4 (.pointer (some ⟨B + 1, 5, none⟩)) (by kernel_rfl) (fun _ _ d _ _ h => by cases d <;> exact h) (by kernel_rfl) HS8 rfl rfl rfl (fun w' hS => ?hA24) ?_
      case hA24 => first | (go_simp; rfl) | go_simp
      simp only [List.setIfInBounds_toArray, List.set_cons_zero, List.set_cons_succ]
      refine lx_rd 5 (.slice o.ga o.gn o.gc) (by kernel_rfl) (fun _ _ d _ _ h => by cases d <;> exact h) (by kernel_rfl) HS8 rfl rfl rfl (fun w' hS => ?hA25) ?_
      case hA25 => have q0 := hS.c5; first | (go_simp; rfl) | go_simp
      simp only [List.setIfInBounds_toArray, List.set_cons_zero, List.set_cons_succ]
      refine lx_rd 6 (.pointer (some ⟨B + 1, 6, none⟩)) (by kernel_rfl) (fun _ _ d _ _ h => by cases d <;> exact h) (by kernel_rfl) HS8 rfl rfl rfl (fun w' hS => ?hA26) ?_
      case hA26 => first | (go_simp; rfl) | go_simp
      simp only [List.setIfInBounds_toArray, List.set_cons_zero, List.set_cons_succ]
      refine lx_rd 7 (.string (ba o.s)) (by kernel_rfl) (fun _ _ d _ _ h => by cases d <;> exact h) (by kernel_rfl) HS8 rfl rfl rfl (fun w' hS => ?hA27) ?_
      case hA27 => have q0 := hS.c6; first | (go_simp; rfl) | go_simp
      simp only [List.setIfInBounds_toArray, List.set_cons_zero, List.set_cons_succ]
      refine lx_rd 9 ?vA29 (by kernel_rfl) (fun _ _ d _ _ h => by cases d <;> exact h) (by kernel_rfl) HS8 rfl rfl rfl (fun w' hS => ?hA29) ?_
      case hA29 => first | (go_simp; rfl) | go_simp
      simp only [List.setIfInBounds_toArray, List.set_cons_zero, List.set_cons_succ]
      refine lx_one 8 (by kernel_rfl) (stepT_call 16 ?ac2 rfl rfl rfl ?rc2 ?_)
      case rc2 => first | (go_simp; rfl) | go_simp
      refine (cA1.out X8 HS8).mono ?_
      rintro e X9 ⟨rfl, S9⟩
      have HS9 := S9.out.1
      refine ⟨_, rfl, fun _ => HS9, ?_⟩
      simp only [lxa, lxb, lxc]
      refine lx_rd 10 (.bool true) (by kernel_rfl) (fun _ _ d _ _ h => by cases d <;> exact h) (by kernel_rfl) HS9 rfl rfl rfl (fun w' hS => ?hB210) ?_
      case hB210 => first | (go_simp; rfl) | go_simp
      simp only [List.setIfInBounds_toArray, List.set_cons_zero, List.set_cons_succ]
      refine lx_rd 11 (.bool true) (by kernel_rfl) (fun _ _ d _ _ h => by cases d <;> exact h) (by kernel_rfl) HS9 rfl rfl rfl (fun w' hS => ?hB211) ?_
      case hB211 => first | (go_simp; rfl) | go_simp
      simp only [List.setIfInBounds_toArray, List.set_cons_zero, List.set_cons_succ]
      refine lx_rd 12 ?vB212 (by kernel_rfl) (fun _ _ d _ _ h => by cases d <;> exact h) (by kernel_rfl) HS9 rfl rfl rfl (fun w' hS => ?hB212) ?_
      case hB212 => first | (go_simp; rfl) | go_simp
      simp only [List.setIfInBounds_toArray, List.set_cons_zero, List.set_cons_succ]
      refine lx_rd 13 ?vB213 (by kernel_rfl) (fun _ _ d _ _ h => by cases d <;> exact h) (by kernel_rfl) HS9 rfl rfl rfl (fun w' hS => ?hB213) ?_
      case hB213 => first | (go_simp; rfl) | go_simp
      simp only [List.setIfInBounds_toArray, List.set_cons_zero, List.set_cons_succ]
      refine lx_rd 14 ?vB214 (by kernel_rfl) (fun _ _ d _ _ h => by cases d <;> exact h) (by kernel_rfl) HS9 rfl rfl rfl (fun w' hS => ?hB214) ?_
      case hB214 => first | (go_simp; rfl) | go_simp
      simp only [List.setIfInBounds_toArray, List.set_cons_zero, List.set_cons_succ]
      refine lx_rd 15 (.pointer (some ⟨B + 1, 4, none⟩)) (by kernel_rfl) (fun _ _ d _ _ h => by cases d <;> exact h) (by kernel_rfl) HS9 rfl rfl rfl (fun w' hS => ?hB215) ?_
      case hB215 => first | (go_simp; rfl) | go_simp
      simp only [List.setIfInBounds_toArray, List.set_cons_zero, List.set_cons_succ]
      refine lx_rd 16 (.string (ba o.c)) (by kernel_rfl) (fun _ _ d _ _ h => by cases d <;> exact h) (by kernel_rfl) HS9 rfl rfl rfl (fun w' hS => ?hB216) ?_
      case hB216 => have q0 := hS.c4; first | (go_simp; rfl) | go_simp
      simp only [List.setIfInBounds_toArray, List.set_cons_zero, List.set_cons_succ]
      refine lx_rd 17 (.pointer (some ⟨B + 1, 5, none⟩)) (by kernel_rfl) (fun _ _ d _ _ h => by cases d <;> exact h) (by kernel_rfl) HS9 rfl rfl rfl (fun w' hS => ?hB217) ?_
      case hB217 => first | (go_simp; rfl) | go_simp
      simp only [List.setIfInBounds_toArray, List.set_cons_zero, List.set_cons_succ]
      refine lx_rd 18 (.slice o.ga o.gn o.gc) (by kernel_rfl) (fun _ _ d _ _ h => by cases d <;> exact h) (by kernel_rfl) HS9 rfl rfl rfl (fun w' hS => ?hB218) ?_
      case hB218 => have q0 := hS.c5; first | (go_simp; rfl) | go_simp
      simp only [List.setIfInBounds_toArray, List.set_cons_zero, List.set_cons_succ]
      refine lx_rd 19 (.pointer (some ⟨B + 1, 6, none⟩)) (by kernel_rfl) (fun _ _ d _ _ h => by cases d <;> exact h) (by kernel_rfl) HS9 rfl rfl rfl (fun w' hS => ?hB219) ?_
      case hB219 => first | (go_simp; rfl) | go_simp
      simp only [List.setIfInBounds_toArray, List.set_cons_zero, List.set_cons_succ]
      refine lx_rd 20 (.string (ba o.s)) (by kernel_rfl) (fun _ _ d _ _ h => by cases d <;> exact h) (by kernel_rfl) HS9 rfl rfl rfl (fun w' hS => ?hB220) ?_
      case hB220 => have q0 := hS.c6; first | (go_simp; rfl) | go_simp
      simp only [List.setIfInBounds_toArray, List.set_cons_zero, List.set_cons_succ]
      refine lx_rd 22 ?vB222 (by kernel_rfl) (fun _ _ d _ _ h => by cases d <;> exact h) (by kernel_rfl) HS9 rfl rfl rfl (fun w' hS => ?hB222) ?_
      case hB222 => first | (go_simp; rfl) | go_simp
      simp only [List.setIfInBounds_toArray, List.set_cons_zero, List.set_cons_succ]
      refine lx_rd 23 ?vB223 (by kernel_rfl) (fun _ _ d _ _ h => by cases d <;> exact h) (by kernel_rfl) HS9 rfl rfl rfl (fun w' hS => ?hB223) ?_
      case hB223 => first | (go_simp; rfl) | go_simp
      simp only [List.setIfInBounds_toArray, List.set_cons_zero, List.set_cons_succ]
      refine lx_rd 24 ?vB224 (by kernel_rfl) (fun _ _ d _ _ h => by cases d <;> exact h) (by kernel_rfl) HS9 rfl rfl rfl (fun w' hS => ?hB224) ?_
      case hB224 => first | (go_simp; rfl) | go_simp
      simp only [List.setIfInBounds_toArray, List.set_cons_zero, List.set_cons_succ]
      refine lx_rd 25 (.pointer (some ⟨B + 1, 4, none⟩)) (by kernel_rfl) (fun _ _ d _ _ h => by cases d <;> exact h) (by kernel_rfl) HS9 rfl rfl rfl (fun w' hS => ?hB225) ?_
      case hB225 => first | (go_simp; rfl) | go_simp
      simp only [List.setIfInBounds_toArray, List.set_cons_zero, List.set_cons_succ]
      refine lx_rd 26 (.string (ba o.c)) (by kernel_rfl) (fun _ _ d _ _ h => by cases d <;> exact h) (by kernel_rfl) HS9 rfl rfl rfl (fun w' hS => ?hB226) ?_
      case hB226 => have q0 := hS.c4; first | (go_simp; rfl) | go_simp
      simp only [List.setIfInBounds_toArray, List.set_cons_zero, List.set_cons_succ]
      refine lx_rd 27 (.pointer (some ⟨B + 1, 5, none⟩)) (by kernel_rfl) (fun _ _ d _ _ h => by cases d <;> exact h) (by kernel_rfl) HS9 rfl rfl rfl (fun w' hS => ?hB227) ?_
      case hB227 => first | (go_simp; rfl) | go_simp
      simp only [List.setIfInBounds_toArray, List.set_cons_zero, List.set_cons_succ]
      refine lx_rd 28 (.slice o.ga o.gn o.gc) (by kernel_rfl) (fun _ _ d _ _ h => by cases d <;> exact h) (by kernel_rfl) HS9 rfl rfl rfl (fun w' hS => ?hB228) ?_
      case hB228 => have q0 := hS.c5; first | (go_simp; rfl) | go_simp
      simp only [List.setIfInBounds_toArray, List.set_cons_zero, List.set_cons_succ]
      refine lx_rd 29 (.pointer (some ⟨B + 1, 6, none⟩)) (by kernel_rfl) (fun _ _ d _ _ h => by cases d <;> exact h) (by kernel_rfl) HS9 rfl rfl rfl (fun w' hS => ?hB229) ?_
      case hB229 => first | (go_simp; rfl) | go_simp
      simp only [List.setIfInBounds_toArray, List.set_cons_zero, List.set_cons_succ]
      refine lx_rd 30 (.string (ba o.s)) (by kernel_rfl) (fun _ _ d _ _ h => by cases d <;> exact h) (by kernel_rfl) HS9 rfl rfl rfl (fun w' hS => ?hB230) ?_
      case hB230 => have q0 := hS.c6; first | (go_simp; rfl) | go_simp
      simp only [List.setIfInBounds_toArray, List.set_cons_zero, List.set_cons_succ]
      refine lx_one 21 (by kernel_rfl) (stepT_call 16 ?ad2 rfl rfl rfl ?rd2 ?_)
      case rd2 => first | (go_simp; rfl) | go_simp
      refine (cA2.out X9 HS9).mono ?_
      rintro e Xa ⟨rfl, Sa⟩
      have HSa := Sa.out.1
      refine ⟨_, rfl, fun _ => HSa, ?_⟩
      simp only [lxa, lxb, lxc]
      refine lx_one 31 (by kernel_rfl) (stepT_call 16 ?ae2 rfl rfl rfl ?re2 ?_)
      case re2 => first | (go_simp; rfl) | go_simp
      refine (cA3.out Xa HSa).mono ?_
      rintro e Xb ⟨rfl, Sb⟩
      have HSb := Sb.out.1
      refine ⟨_, rfl, fun _ => HSb, ?_⟩
      simp only [lxa, lxb, lxc]
      refine lx_rd 32 (.bool true) (by kernel_rfl) (fun _ _ d _ _ h => by cases d <;> exact h) (by kernel_rfl) HSb rfl rfl rfl (fun w' hS => ?hC232) ?_
      case hC232 => first | (go_simp; rfl) | go_simp
      simp only [List.setIfInBounds_toArray, List.set_cons_zero, List.set_cons_succ]
      refine lx_rd 33 (.bool true) (by kernel_rfl) (fun _ _ d _ _ h => by cases d <;> exact h) (by kernel_rfl) HSb rfl rfl rfl (fun w' hS => ?hC233) ?_
      case hC233 => first | (go_simp; rfl) | go_simp
      simp only [List.setIfInBounds_toArray, List.set_cons_zero, List.set_cons_succ]
      refine lx_rd 34 (.bool true) (by kernel_rfl) (fun _ _ d _ _ h => by cases d <;> exact h) (by kernel_rfl) HSb rfl rfl rfl (fun w' hS => ?hC234) ?_
      case hC234 => first | (go_simp; rfl) | go_simp
      simp only [List.setIfInBounds_toArray, List.set_cons_zero, List.set_cons_succ]
      refine lx_nil (by kernel_rfl) ?_
      have HE : Hid (Below w.heap.size w Xb) := by
        show Below _ _ _
        rw [HBz.out]; exact HSb.st.bl
      clear cA1 cA2 cA3 HS8 HS9 HSa HSb S8 S9 Sa Sb
      go_wp2
      go_ret
      exact ⟨rfl, HE.out⟩
    case true.true =>
      go_upto_region 12 with fail
      first
        | rw [show ((⟨#[100, 101, 110, 121, 32]⟩ : ByteArray) ++ ⟨#[111, 117, 116, 32, 97, 108, 108]⟩) = ba FT from by rw [← HFT.out]; rfl]
        | rw [show ((⟨#[100, 101, 110, 121, 32]⟩ : ByteArray) ++ ⟨#[105, 110, 32, 97, 108, 108]⟩) = ba FT from by rw [← HFT.out]; rfl]
        | rw [show ((⟨#[97, 108, 108, 111, 119, 32]⟩ : ByteArray) ++ ⟨#[111, 117, 116, 32, 97, 108, 108]⟩) = ba FT from by rw [← HFT.out]; rfl]
        | rw [show ((⟨#[97, 108, 108, 111, 119, 32]⟩ : ByteArray) ++ ⟨#[105, 110, 32, 97, 108, 108]⟩) = ba FT from by rw [← HFT.out]; rfl]
      have cT3 := cT2.out w3 _ S3.out
      go_upto_region 14 with (first
        | (go_at_call 14; refine cT3.mono ?_; clear cT3; rintro e w4 ⟨a4, c4, rfl, t4, hb4⟩; have S4 : Hid _ := S3.out.below hb4; have cS := cOld.out w4 a4 c4 S4.out t4; clear t4 hb4)
        | (go_at_call 15; refine cS.mono ?_; clear cS; rintro e w5 ⟨rfl, S5⟩))
      have own5 := own_built w5 #[.string (ba FT)] 9 (by show 1 ≤ 1000000; omega)
      go_upto_region 16 with (first
        | (at_builtin; refine wp_appS rfl (.tmp 48) (.tmp 49) rfl w5.heap.size (.slice (some ⟨w5.heap.size, 0, none⟩) 1 1) 1 [FT] rfl own5 la N lcp L rfl (S5.out.below (below1 _ _)).l (by have := HN20.out; omega) (by simp) ?_; intro v6 w6 o6 k6; obtain ⟨a6, c6, hv6, t6⟩ := TRd.ofOwn o6; subst hv6; have S6 : Hid _ := S5.out.below ((below1 w5 (.cells #[.string (ba FT)] 9)).trans (k6.below (by simp) (fun i e => by cases e; exact Nat.le_refl _))); have cS6 := cNew2.out w6 a6 c6 S6.out t6)
        | (go_at_call 15; refine cS6.mono ?_; clear cS6; rintro e w7 ⟨rfl, S7⟩))
      have S8 : Hid _ := S7.out.below (Below.refl _ _).drew
      clear cT2 cOld cNew2 S3 S4 S5 S6 S7 own5 o6 k6 t6
      refine wp_region_lx (fun w' => FrS w B o la N lcp L q Z P2 w') [] 35 (by kernel_rfl) (by kernel_rfl) ?_
      generalize w7.drew = X8 at S8 ⊢
      have HS8 := S8.out
      refine lx_rd 0 ?vA30 (by kernel_rfl) (fun _ _ d _ _ h => by cases d <;> exact h) (by kernel_rfl) HS8 rfl rfl rfl (fun w' hS => ?hA30) ?_
      case hA30 => first | (go_simp; rfl) | go_simp
      simp only [List.setIfInBounds_toArray, List.set_cons_zero, List.set_cons_succ]
      refine lx_rd 1 ?vA31 (by kernel_rfl) (fun _ _ d _ _ h => by cases d <;> exact h) (by kernel_rfl) HS8 rfl rfl rfl (fun w' hS => ?hA31) ?_
      case hA31 => first | (go_simp; rfl) | go_simp
      simp only [List.setIfInBounds_toArray, List.set_cons_zero, List.set_cons_succ]
      refine lx_rd 2 (.pointer (some ⟨B + 1, 4, none⟩)) (by kernel_rfl) (fun _ _ d _ _ h => by cases d <;> exact h) (by kernel_rfl) HS8 rfl rfl rfl (fun w' hS => ?hA32) ?_
      case hA32 => first | (go_simp; rfl) | go_simp
      simp only [List.setIfInBounds_toArray, List.set_cons_zero, List.set_cons_succ]
      refine lx_rd 3 (.string (ba o.c)) (by kernel_rfl) (fun _ _ d _ _ h => by cases d <;> exact h) (by kernel_rfl) HS8 rfl rfl rfl (fun w' hS => ?hA33) ?_
      case hA33 => have q0 := hS.c4; first | (go_simp; rfl) | go_simp
      simp only [List.setIfInBounds_toArray, List.set_cons_zero, List.set_cons_succ]
      refine lx_rd 4 (.pointer (some ⟨B + 1, 5, none⟩)) (by kernel_rfl) (fun _ _ d _ _ h => by cases d <;> exact h) (by kernel_rfl) HS8 rfl rfl rfl (fun w' hS => ?hA34) ?_
      case hA34 => first | (go_simp; rfl) | go_simp
      simp only [List.setIfInBounds_toArray, List.set_cons_zero, List.set_cons_succ]
      refine lx_rd 5 (.slice o.ga o.gn o.gc) (by kernel_rfl) (fun _ _ d _ _ h => by cases d <;> exact h) (by kernel_rfl) HS8 rfl rfl rfl (fun w' hS => ?hA35) ?_
      case hA35 => have q0 := hS.c5; first | (go_simp; rfl) | go_simp
      simp only [List.setIfInBounds_toArray, List.set_cons_zero, List.set_cons_succ]
      refine lx_rd 6 (.pointer (some ⟨B + 1, 6, none⟩)) (by kernel_rfl) (fun _ _ d _ _ h => by cases d <;> exact h) (by kernel_rfl) HS8 rfl rfl rfl (fun w' hS => ?hA36) ?_
      case hA36 => first | (go_simp; rfl) | go_simp
      simp only [List.setIfInBounds_toArray, List.set_cons_zero, List.set_cons_succ]
      refine lx_rd 7 (.string (ba o.s)) (by kernel_rfl) (fun _ _ d _ _ h => by cases d <;> exact h) (by kernel_rfl) HS8 rfl rfl rfl (fun w' hS => ?hA37) ?_
      case hA37 => have q0 := hS.c6; first | (go_simp; rfl) | go_simp
      simp only [List.setIfInBounds_toArray, List.set_cons_zero, List.set_cons_succ]
      refine lx_rd 9 ?vA39 (by kernel_rfl) (fun _ _ d _ _ h => by cases d <;> exact h) (by kernel_rfl) HS8 rfl rfl rfl (fun w' hS => ?hA39) ?_
      case hA39 => first | (go_simp; rfl) | go_simp
      simp only [List.setIfInBounds_toArray, List.set_cons_zero, List.set_cons_succ]
      refine lx_one 8 (by kernel_rfl) (stepT_call 16 ?ac3 rfl rfl rfl ?rc3 ?_)
      case rc3 => first | (go_simp; rfl) | go_simp
      refine (cA1.out X8 HS8).mono ?_
      rintro e X9 ⟨rfl, S9⟩
      have HS9 := S9.out.1
      refine ⟨_, rfl, fun _ => HS9, ?_⟩
      simp only [lxa, lxb, lxc]
      refine lx_rd 10 (.bool true) (by kernel_rfl) (fun _ _ d _ _ h => by cases d <;> exact h) (by kernel_rfl) HS9 rfl rfl rfl (fun w' hS => ?hB310) ?_
      case hB310 => first | (go_simp; rfl) | go_simp
      simp only [List.setIfInBounds_toArray, List.set_cons_zero, List.set_cons_succ]
      refine lx_rd 11 (.bool true) (by kernel_rfl) (fun _ _ d _ _ h => by cases d <;> exact h) (by kernel_rfl) HS9 rfl rfl rfl (fun w' hS => ?hB311) ?_
      case hB311 => first | (go_simp; rfl) | go_simp
      simp only [List.setIfInBounds_toArray, List.set_cons_zero, List.set_cons_succ]
      refine lx_rd 12 ?vB312 (by kernel_rfl) (fun _ _ d _ _ h => by cases d <;> exact h) (by kernel_rfl) HS9 rfl rfl rfl (fun w' hS => ?hB312) ?_
      case hB312 => first | (go_simp; rfl) | go_simp
      simp only [List.setIfInBounds_toArray, List.set_cons_zero, List.set_cons_succ]
      refine lx_rd 13 ?vB313 (by kernel_rfl) (fun _ _ d _ _ h => by cases d <;> exact h) (by kernel_rfl) HS9 rfl rfl rfl (fun w' hS => ?hB313) ?_
      case hB313 => first | (go_simp; rfl) | go_simp
      simp only [List.setIfInBounds_toArray, List.set_cons_zero, List.set_cons_succ]
      refine lx_rd 14 ?vB314 (by kernel_rfl) (fun _ _ d _ _ h => by cases d <;> exact h) (by kernel_rfl) HS9 rfl rfl rfl (fun w' hS => ?hB314) ?_
      case hB314 => first | (go_simp; rfl) | go_simp
      simp only [List.setIfInBounds_toArray, List.set_cons_zero, List.set_cons_succ]
      refine lx_rd 15 (.pointer (some ⟨B + 1, 4, none⟩)) (by kernel_rfl) (fun _ _ d _ _ h => by cases d <;> exact h) (by kernel_rfl) HS9 rfl rfl rfl (fun w' hS => ?hB315) ?_
      case hB315 => first | (go_simp; rfl) | go_simp
      simp only [List.setIfInBounds_toArray, List.set_cons_zero, List.set_cons_succ]
      refine lx_rd 16 (.string (ba o.c)) (by kernel_rfl) (fun _ _ d _ _ h => by cases d <;> exact h) (by kernel_rfl) HS9 rfl rfl rfl (fun w' hS => ?hB316) ?_
      case hB316 => have q0 := hS.c4; first | (go_simp; rfl) | go_simp
      simp only [List.setIfInBounds_toArray, List.set_cons_zero, List.set_cons_succ]
      refine lx_rd 17 (.pointer (some ⟨B + 1, 5, none⟩)) (by kernel_rfl) (fun _ _ d _ _ h => by cases d <;> exact h) (by kernel_rfl) HS9 rfl rfl rfl (fun w' hS => ?hB317) ?_
      case hB317 => first | (go_simp; rfl) | go_simp
      simp only [List.setIfInBounds_toArray, List.set_cons_zero, List.set_cons_succ]
      refine lx_rd 18 (.slice o.ga o.gn o.gc) (by kernel_rfl) (fun _ _ d _ _ h => by cases d <;> exact h) (by kernel_rfl) HS9 rfl rfl rfl (fun w' hS => ?hB318) ?_
      case hB318 => have q0 := hS.c5; first | (go_simp; rfl) | go_simp
      simp only [List.setIfInBounds_toArray, List.set_cons_zero, List.set_cons_succ]
      refine lx_rd 19 (.pointer (some ⟨B + 1, 6, none⟩)) (by kernel_rfl) (fun _ _ d _ _ h => by cases d <;> exact h) (by kernel_rfl) HS9 rfl rfl rfl (fun w' hS => ?hB319) ?_
      case hB319 => first | (go_simp; rfl) | go_simp
      simp only [List.setIfInBounds_toArray, List.set_cons_zero, List.set_cons_succ]
      refine lx_rd 20 (.string (ba o.s)) (by kernel_rfl) (fun _ _ d _ _ h => by cases d <;> exact h) (by kernel_rfl) HS9 rfl rfl rfl (fun w' hS => ?hB320) ?_
      case hB320 => have q0 := hS.c6; first | (go_simp; rfl) | go_simp
      simp only [List.setIfInBounds_toArray, List.set_cons_zero, List.set_cons_succ]
      refine lx_rd 22 ?vB322 (by kernel_rfl) (fun _ _ d _ _ h => by cases d <;> exact h) (by kernel_rfl) HS9 rfl rfl rfl (fun w' hS => ?hB322) ?_
      case hB322 => first | (go_simp; rfl) | go_simp
      simp only [List.setIfInBounds_toArray, List.set_cons_zero, List.set_cons_succ]
      refine lx_rd 23 ?vB323 (by kernel_rfl) (fun _ _ d _ _ h => by cases d <;> exact h) (by kernel_rfl) HS9 rfl rfl rfl (fun w' hS => ?hB323) ?_
      case hB323 => first | (go_simp; rfl) | go_simp
      simp only [List.setIfInBounds_toArray, List.set_cons_zero, List.set_cons_succ]
      refine lx_rd 24 ?vB324 (by kernel_rfl) (fun _ _ d _ _ h => by cases d <;> exact h) (by kernel_rfl) HS9 rfl rfl rfl (fun w' hS => ?hB324) ?_
      case hB324 => first | (go_simp; rfl) | go_simp
      simp only [List.setIfInBounds_toArray, List.set_cons_zero, List.set_cons_succ]
      refine lx_rd 25 (.pointer (some ⟨B + 1, 4, none⟩)) (by kernel_rfl) (fun _ _ d _ _ h => by cases d <;> exact h) (by kernel_rfl) HS9 rfl rfl rfl (fun w' hS => ?hB325) ?_
      case hB325 => first | (go_simp; rfl) | go_simp
      simp only [List.setIfInBounds_toArray, List.set_cons_zero, List.set_cons_succ]
      refine lx_rd 26 (.string (ba o.c)) (by kernel_rfl) (fun _ _ d _ _ h => by cases d <;> exact h) (by kernel_rfl) HS9 rfl rfl rfl (fun w' hS => ?hB326) ?_
      case hB326 => have q0 := hS.c4; first | (go_simp; rfl) | go_simp
      simp only [List.setIfInBounds_toArray, List.set_cons_zero, List.set_cons_succ]
      refine lx_rd 27 (.pointer (some ⟨B + 1, 5, none⟩)) (by kernel_rfl) (fun _ _ d _ _ h => by cases d <;> exact h) (by kernel_rfl) HS9 rfl rfl rfl (fun w' hS => ?hB327) ?_
      case hB327 => first | (go_simp; rfl) | go_simp
      simp only [List.setIfInBounds_toArray, List.set_cons_zero, List.set_cons_succ]
      refine lx_rd 28 (.slice o.ga o.gn o.gc) (by kernel_rfl) (fun _ _ d _ _ h => by cases d <;> exact h) (by kernel_rfl) HS9 rfl rfl rfl (fun w' hS => ?hB328) ?_
      case hB328 => have q0 := hS.c5; first | (go_simp; rfl) | go_simp
      simp only [List.setIfInBounds_toArray, List.set_cons_zero, List.set_cons_succ]
      refine lx_rd 29 (.pointer (some ⟨B + 1, 6, none⟩)) (by kernel_rfl) (fun _ _ d _ _ h => by cases d <;> exact h) (by kernel_rfl) HS9 rfl rfl rfl (fun w' hS => ?hB329) ?_
      case hB329 => first | (go_simp; rfl) | go_simp
      simp only [List.setIfInBounds_toArray, List.set_cons_zero, List.set_cons_succ]
      refine lx_rd 30 (.string (ba o.s)) (by kernel_rfl) (fun _ _ d _ _ h => by cases d <;> exact h) (by kernel_rfl) HS9 rfl rfl rfl (fun w' hS => ?hB330) ?_
      case hB330 => have q0 := hS.c6; first | (go_simp; rfl) | go_simp
      simp only [List.setIfInBounds_toArray, List.set_cons_zero, List.set_cons_succ]
      refine lx_one 21 (by kernel_rfl) (stepT_call 16 ?ad3 rfl rfl rfl ?rd3 ?_)
      case rd3 => first | (go_simp; rfl) | go_simp
      refine (cA2.out X9 HS9).mono ?_
      rintro e Xa ⟨rfl, Sa⟩
      have HSa := Sa.out.1
      refine ⟨_, rfl, fun _ => HSa, ?_⟩
      simp only [lxa, lxb, lxc]
      refine lx_one 31 (by kernel_rfl) (stepT_call 16 ?ae3 rfl rfl rfl ?re3 ?_)
      case re3 => first | (go_simp; rfl) | go_simp
      refine (cA3.out Xa HSa).mono ?_
      rintro e Xb ⟨rfl, Sb⟩
      have HSb := Sb.out.1
      refine ⟨_, rfl, fun _ => HSb, ?_⟩
      simp only [lxa, lxb, lxc]
      refine lx_rd 32 (.bool true) (by kernel_rfl) (fun _ _ d _ _ h => by cases d <;> exact h) (by kernel_rfl) HSb rfl rfl rfl (fun w' hS => ?hC332) ?_
      case hC332 => first | (go_simp; rfl) | go_simp
      simp only [List.setIfInBounds_toArray, List.set_cons_zero, List.set_cons_succ]
      refine lx_rd 33 (.bool true) (by kernel_rfl) (fun _ _ d _ _ h => by cases d <;> exact h) (by kernel_rfl) HSb rfl rfl rfl (fun w' hS => ?hC333) ?_
      case hC333 => first | (go_simp; rfl) | go_simp
      simp only [List.setIfInBounds_toArray, List.set_cons_zero, List.set_cons_succ]
      refine lx_rd 34 (.bool true) (by kernel_rfl) (fun _ _ d _ _ h => by cases d <;> exact h) (by kernel_rfl) HSb rfl rfl rfl (fun w' hS => ?hC334) ?_
      case hC334 => first | (go_simp; rfl) | go_simp
      simp only [List.setIfInBounds_toArray, List.set_cons_zero, List.set_cons_succ]
      refine lx_nil (by kernel_rfl) ?_
      have HE : Hid (Below w.heap.size w Xb) := by
        show Below _ _ _
        rw [HBz.out]; exact HSb.st.bl
      clear cA1 cA2 cA3 HS8 HS9 HSa HSb S8 S9 Sa Sb
      go_wp2
      go_ret
      exact ⟨rfl, HE.out⟩
  · rw [HO.out, if_neg hz] at cOld
    have hd : (((readR L).2 : Int) != 0) = true := by simp; omega
    clear cNew HO hz cA1 cA2 cA3
    generalize (readR L).2 = ne at *
    have cT3 := cT2.out w3 _ S3.out
    cases al <;> cases ii
    all_goals
      go_wp2_with (first
        | (go_at_call 14; refine cT3.mono ?_; clear cT3; rintro e w4 ⟨a4, c4, rfl, t4, hb4⟩; have S4 : Hid _ := S3.out.below hb4; have cS := cOld.out w4 a4 c4 S4.out t4; clear t4 hb4)
        | (go_at_call 15; refine cS.mono ?_; clear cS; rintro e w5 ⟨rfl, S5⟩))
      go_ret
      exact ⟨rfl, by rw [HBz.out]; exact S5.out.st.bl⟩
open Go.ChangeShapes Go.WideShapes Go.ChangeAt
theorem cellsFront : Tryd.prog.cellsOf 48 = 10 := by kernel_rfl
theorem array10 {α : Type} {cs : Array α} (h : cs.size = 10) : ∃ c0 c1 c2 c3 c4 c5 c6 c7 c8 c9, cs = #[c0, c1, c2, c3, c4, c5, c6, c7, c8, c9] := by
  obtain ⟨l⟩ := cs
  match l, h with
  | [c0, c1, c2, c3, c4, c5, c6, c7, c8, c9], _ => exact ⟨c0, c1, c2, c3, c4, c5, c6, c7, c8, c9, rfl⟩
theorem open_front {H : Type} {enc : TypeId × Value → H} {W : World} {b0 : Nat} {v : Value} {d : DataW H} {p : List MemPlace}
    (hv : Value.okWide Tryd.prog W .any b0 48 v) (h : DataW.Trod enc Tryd.prog W 0 (fun _ => true) true 48 v d p) : ∃ x o ts us gs, v = .agg (fc x o) ∧ TRd W x.ta x.tn x.tcp ts ∧ OpR W o us gs := by
  obtain ⟨cs, rfl, hsz⟩ := okWide_struct Tryd.underlying48 hv
  obtain ⟨c0, c1, c2, c3, c4, c5, c6, c7, c8, c9, rfl⟩ := array10 (hsz.trans cellsFront)
  obtain ⟨fuel, hf⟩ := h
  obtain ⟨ys, n, _, hx, hl, hlen, hfs⟩ := DataW.trod_struct Tryd.underlying48 hf
  match ys, hlen with
  | [y0, y1, y2, y3], _ =>
    have f0 : DataW.trod enc Tryd.prog W 0 (fun _ => true) true n 37 [c0] = some y0 := by simpa [Value.cells, cellsStrs] using hfs 0 _ rfl
    have f1 : DataW.trod enc Tryd.prog W 0 (fun _ => true) true n 4 [c1] = some y1 := by simpa [Value.cells, cellsBool] using hfs 1 _ rfl
    have f2 : DataW.trod enc Tryd.prog W 0 (fun _ => true) true n 4 [c2] = some y2 := by simpa [Value.cells, cellsBool] using hfs 2 _ rfl
    have f3 : DataW.trod enc Tryd.prog W 0 (fun _ => true) true n 39 [c3, c4, c5, c6, c7, c8, c9] = some y3 := by simpa [Value.cells, cellsOp] using hfs 3 _ rfl
    obtain ⟨A1, e1, _⟩ := DataW.trod_bool Tryd.underlying4 f1
    obtain ⟨A2, e2, _⟩ := DataW.trod_bool Tryd.underlying4 f2
    simp only [List.cons.injEq, and_true] at e1 e2
    subst e1 e2
    obtain ⟨ta, tn, tc, ts, rfl, hT⟩ := strs_cell f0
    obtain ⟨o, us, gs, e, hR⟩ := op_cells f3
    refine ⟨⟨ta, tn, tc, A1, A2⟩, o, ts, us, gs, ?_, hT, hR⟩
    unfold fc
    unfold oc at e
    have e' := congrArg Array.toList e
    simp only [List.cons.injEq, and_true] at e'
    obtain ⟨rfl, rfl, rfl, rfl, rfl, rfl, rfl⟩ := e'
    rfl
end Go.Proofs.YtiplalbicibahaaDoor
