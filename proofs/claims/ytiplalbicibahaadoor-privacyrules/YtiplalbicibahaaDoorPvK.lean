/- privacy: Drop; the document's runs. -/
import Derived.Test.YtiplalbicibahaaDoorPvJ
set_option maxRecDepth 100000
namespace Go.Proofs.YtiplalbicibahaaDoor
open Go.RowKit Go.Joins Go.Shelf

theorem setR_us (P : Pl) (s : By) (ts : List By) : (setR P s ts).2.us = P.us := by
  unfold setR
  split
  · rfl
  · split
    · rfl
    · split
      · rfl
      · rfl
def dropK (ks : List By) (s : By) : List By := ks.filter (fun k => !(k == s))
def dropP (P : Pl) (s : By) : Pl := { P with ks := dropK P.ks s, m := putM P.m s none }
def dropR (P : Pl) (s : By) : Nat × Pl := if (P.m s).isSome = false then (7, P) else if (s == P.us) = true then (9, P) else (0, dropP P s)
theorem LsM.drop {w w' : World} {F : Nat → Prop} {q mb : Nat} {m : By → Option Rw} {P : Pl} (h : LsM w F q mb m P) (s : By)
    (hm : RMap w' mb P.ks.length (putM m s none)) (hk : Keep (fun i => i = mb) w w') : LsM w' F q mb (putM m s none) (dropP P s) := by
  have hks : (dropP P s).ks.Nodup := h.nd.filter _
  have hmem : ∀ u, ((dropP P s).m u).isSome = true ↔ u ∈ (dropP P s).ks := fun u => by
    unfold dropP dropK
    dsimp only
    by_cases hu : u = s
    · subst hu; rw [putM_same]; simp
    · rw [putM_other _ _ hu, h.mem u]; simp [hu]
  have htie : ∀ u, TieR w' F (putM m s none u) ((dropP P s).m u) := fun u => by
    unfold dropP
    dsimp only
    by_cases hu : u = s
    · subst hu; rw [putM_same, putM_same]; trivial
    · rw [putM_other _ _ hu, putM_other _ _ hu]
      exact (h.tie u).keep hk (fun f g hf hg e => (h.row hf hg).2 e) (fun i hi => hi)
  exact ⟨box_keep h.blk hk (fun e => h.ne e), hm.tight _ hks (fun u => by rw [(htie u).isSome]; exact hmem u), h.fq, h.fm, htie, fun i hi => Nat.lt_of_lt_of_le (h.lt i hi) hk.size, hks, hmem⟩
/-- 'delete(m, k)' at its place in the walk. -/
theorem wp_delM {w : World} {ops : Array Oper} {rest : List Oper} {o : Oper} {a : Act} {Q : Exit → Act → World → Prop} (hgd : o.guard = none) (p x : Operand) (ho : o.op = .call { callee := .builtin .delete, args := #[p, x], argTypes := #[63, 9] })
    (b n : Nat) (m : By → Option Rw) (hp : a.eval p = .map (some b)) (h : RMap w b n m) (s : By) (hs : s.length ≤ maxLen) (hx : a.eval x = .string (ba s))
    (K : ∀ w', RMap w' b n (putM m s none) → Keep (fun k => k = b) w w' → wpList Tryd.prog ops Q rest (a.put o.dst (.tuple #[])) w') : wpList Tryd.prog ops Q (o :: rest) a w := by
  refine wpList_plain hgd fun K' hK' => ?_
  obtain ⟨w', hrun, r1, r2⟩ := h.drop s hs o.type
  unfold Oper.wp
  simp [execOp, ho, resolve, invoke, builtin, hp, hx, hrun, Result.andThen]
  exact hK' _ _ (K w' r1 r2)

set_option maxHeartbeats 1600000 in
theorem drop_any (s : By) (w : World) (F : Nat → Prop) (q : Nat) (P : Pl) (h : LsAt w F q P) (hs : s.length ≤ 1000000) :
    Calls Tryd.prog 25 #[.pointer (some ⟨q, 0, none⟩), .string (ba s)] w fun e w' => e = .returned (.int .i64 ((dropR P s).1 : Nat)) ∧ LsAt w' F q (dropR P s).2 ∧ Keep F w w' := by
  obtain ⟨mb, m, h⟩ := h
  have cH := has_any s w F q mb m P h hs
  have c2 := h.c2
  have c3 := h.c3
  have HH : Hid (LsM w F q mb m P ∧ s.length ≤ 1000000) := ⟨h, hs⟩
  have e1 : ((ba s).toList == (ba P.us).toList) = (s == P.us) := by rw [ba_eq, Lib.toList_data, ba_list]
  unfold dropR
  clear h hs
  generalize (s == P.us) = b1 at e1 ⊢
  cases hb : (P.m s).isSome with
  | false =>
    rw [hb] at cH
    rw [if_pos rfl]
    clear hb e1
    go_enter Tryd.func25, Tryd.ntmps25
    go_wp2_with (go_at_call 29; refine cH.mono ?_; clear cH; rintro e w1 ⟨rfl, hw1⟩; replace hw1 := hw1.symm; subst hw1)
    go_ret
    exact ⟨rfl, ⟨mb, m, HH.out.1⟩, Keep.refl _ _⟩
  | true =>
    rw [hb] at cH
    rw [if_neg (by decide)]
    clear hb
    cases b1 with
    | true =>
      rw [if_pos rfl]
      go_enter Tryd.func25, Tryd.ntmps25
      go_wp2_with (go_at_call 29; refine cH.mono ?_; clear cH; rintro e w1 ⟨rfl, hw1⟩; replace hw1 := hw1.symm; subst hw1)
      go_ret
      exact ⟨rfl, ⟨mb, m, HH.out.1⟩, Keep.refl _ _⟩
    | false =>
      rw [if_neg (by decide)]
      go_enter Tryd.func25, Tryd.ntmps25
      go_wp2_with (first
        | (go_at_call 29; refine cH.mono ?_; clear cH; rintro e w1 ⟨rfl, hw1⟩; replace hw1 := hw1.symm; subst hw1)
        | (at_delete; (refine wp_delM rfl (.tmp 18) (.tmp 19) rfl mb _ m rfl HH.out.1.map s (by have := HH.out.2; unfold maxLen; omega) rfl ?_; intro w5 hm5 hk5)))
      go_ret
      exact ⟨rfl, ⟨mb, putM m s none, HH.out.1.drop s hm5 hk5⟩, hk5.mono (fun i e => by rw [e]; exact HH.out.1.fm)⟩

/-! ### the document's runs -/
theorem TRd.block {w : World} {g : Nat} {ts : List By} (h : w.heap[g]? = some (.cells (tc ts).toArray 9 (0, 0))) (hl : ts.length ≤ 1000000) : TRd w (some ⟨g, 0, none⟩) ts.length ts.length ts := by
  refine ⟨rfl, Nat.le_refl _, by unfold maxLen; omega, fun _ => ⟨g, 0, rfl, fun j hj => ?_⟩, fun e => by cases e⟩
  rw [Nat.zero_add, cell_of_block h, List.getElem?_toArray]
  simp [tc, List.getD, List.getElem?_eq_getElem hj]
def wk1 : By := [100, 101, 110, 121, 32, 105, 110, 32, 106, 105, 100, 32, 66, 111, 98]
def wk2 : By := [97, 108, 108, 111, 119, 32, 105, 110, 32, 97, 108, 108]
def wkP : Pl := (setR (pl0 2 5) [97] [wk1, wk2]).2
theorem wk_set : (setR (pl0 2 5) [97] [wk1, wk2]).1 = 0 := by decide +kernel
theorem wk_a : allowsR ⟨true, [98, 111, 98], [], []⟩ (heldR wkP [97]) = false := by decide +kernel
theorem wk_b : allowsR ⟨true, [99, 121, 100], [], []⟩ (heldR wkP [97]) = true := by decide +kernel
theorem wk_c : allowsR ⟨true, [98, 111, 98], [], []⟩ (heldR wkP []) = true := by decide +kernel
theorem wk_d : (dropR wkP [98]).1 = 7 := by decide +kernel
theorem wk_l (s : By) : (heldR wkP s).length ≤ 100000 := by
  have h : ∀ u, ((wkP.m u).getD []).length ≤ 100000 := fun u => by
    have e : wkP = putP (pl0 2 5) [97] (readR [wk1, wk2]).1 := by
      unfold wkP setR
      rw [if_neg (by decide +kernel), if_neg (by decide +kernel), if_neg (by decide +kernel)]
    rw [e]
    unfold putP
    dsimp only
    by_cases hu : u = [97]
    · subst hu; rw [putM_same]; show (readR [wk1, wk2]).1.length ≤ 100000; decide +kernel
    · rw [putM_other _ _ hu]; exact Nat.zero_le _
  exact h _
set_option maxHeartbeats 1600000 in
theorem wakes_any (w : World) (hT : Lib.Utf8Tabs 0 1 w) : Calls Tryd.prog 12 #[] w fun e w' => e = .returned (.bool true) ∧ Below w.heap.size w w' := by
  have cN := new_ok 2 5 w (by decide) (by decide)
  have cS : ∀ w1 F, LsAt w1 F (w.heap.size + 1) (pl0 2 5) → Below w.heap.size w w1 → Calls Tryd.prog 15 #[.pointer (some ⟨w.heap.size + 1, 0, none⟩), .string ⟨#[97]⟩, .slice (some ⟨w1.heap.size, 0, none⟩) 2 2] (w1.alloc (.cells #[.string ⟨#[100, 101, 110, 121, 32, 105, 110, 32, 106, 105, 100, 32, 66, 111, 98]⟩, .string ⟨#[97, 108, 108, 111, 119, 32, 105, 110, 32, 97, 108, 108]⟩] 9)) fun e w' => e = .returned (.int .i64 0) ∧ Hid (Lq (w1.alloc (.cells #[.string ⟨#[100, 101, 110, 121, 32, 105, 110, 32, 106, 105, 100, 32, 66, 111, 98]⟩, .string ⟨#[97, 108, 108, 111, 119, 32, 105, 110, 32, 97, 108, 108]⟩] 9)) F (w.heap.size + 1) wkP w') := fun w1 F hL hb => by
    have hx := set_any [97] (some ⟨w1.heap.size, 0, none⟩) 2 2 [wk1, wk2] (w1.alloc (.cells #[.string ⟨#[100, 101, 110, 121, 32, 105, 110, 32, 106, 105, 100, 32, 66, 111, 98]⟩, .string ⟨#[97, 108, 108, 111, 119, 32, 105, 110, 32, 97, 108, 108]⟩] 9)) F (w.heap.size + 1) (pl0 2 5) (hL.below (below1 _ _)) (by decide) (TRd.block (ts := [wk1, wk2]) (push_at _ _ rfl) (by decide)) (by decide) (fun t ht => by
        rcases List.mem_cons.1 ht with e | e
        · rw [e]; decide
        · have : t = wk2 := by simpa using e
          rw [this]; decide) (by show 0 < 900000; decide) (tabs_bel hT (hb.trans ((below1 w1 _).mono hb.size)))
    rw [wk_set] at hx
    exact hx
  have cA : ∀ w1 F (s c : By), LsAt w1 F (w.heap.size + 1) wkP → s.length ≤ 1000000 → Calls Tryd.prog 16 #[.pointer (some ⟨w.heap.size + 1, 0, none⟩), .string (ba s), .bool true, .string (ba c), .slice none 0 0, .string ⟨#[]⟩] w1 fun e w' => e = .returned (.bool (allowsR ⟨true, c, [], []⟩ (heldR wkP s))) ∧ Below w1.heap.size w1 w' := fun w1 F s c hL hs =>
    allows_any s ⟨true, c, [], []⟩ none 0 0 w1 F (w.heap.size + 1) wkP hL hs (by unfold wkP; rw [setR_us]; decide) (TRd.nil w1) (Nat.zero_le _) (wk_l s)
  have cA1 : ∀ w1 F, LsAt w1 F (w.heap.size + 1) wkP → Calls Tryd.prog 16 #[.pointer (some ⟨w.heap.size + 1, 0, none⟩), .string ⟨#[97]⟩, .bool true, .string ⟨#[98, 111, 98]⟩, .slice none 0 0, .string ⟨#[]⟩] w1 fun e w' => e = .returned (.bool false) ∧ Below w1.heap.size w1 w' := fun w1 F hL => by
    have := cA w1 F [97] [98, 111, 98] hL (by decide); rw [wk_a] at this; exact this
  have cA2 : ∀ w1 F, LsAt w1 F (w.heap.size + 1) wkP → Calls Tryd.prog 16 #[.pointer (some ⟨w.heap.size + 1, 0, none⟩), .string ⟨#[97]⟩, .bool true, .string ⟨#[99, 121, 100]⟩, .slice none 0 0, .string ⟨#[]⟩] w1 fun e w' => e = .returned (.bool true) ∧ Below w1.heap.size w1 w' := fun w1 F hL => by
    have := cA w1 F [97] [99, 121, 100] hL (by decide); rw [wk_b] at this; exact this
  have cA3 : ∀ w1 F, LsAt w1 F (w.heap.size + 1) wkP → Calls Tryd.prog 16 #[.pointer (some ⟨w.heap.size + 1, 0, none⟩), .string ⟨#[]⟩, .bool true, .string ⟨#[98, 111, 98]⟩, .slice none 0 0, .string ⟨#[]⟩] w1 fun e w' => e = .returned (.bool true) ∧ Below w1.heap.size w1 w' := fun w1 F hL => by
    have := cA w1 F [] [98, 111, 98] hL (by decide); rw [wk_c] at this; exact this
  have cD : ∀ w1 F, LsAt w1 F (w.heap.size + 1) wkP → (∀ i, F i → w.heap.size ≤ i) → Below w.heap.size w w1 → Calls Tryd.prog 25 #[.pointer (some ⟨w.heap.size + 1, 0, none⟩), .string ⟨#[98]⟩] w1 fun e w' => e = .returned (.int .i64 7) ∧ Below w.heap.size w w' := fun w1 F hL hF hb => by
    have := drop_any [98] w1 F (w.heap.size + 1) wkP hL (by decide)
    rw [wk_d] at this
    exact this.mono (fun e w' hh => ⟨hh.1, hb.trans (hh.2.2.below hb.size hF)⟩)
  replace cS : Hid _ := cS
  replace cA1 : Hid _ := cA1
  replace cA2 : Hid _ := cA2
  replace cA3 : Hid _ := cA3
  replace cD : Hid _ := cD
  clear cA hT
  have tk1 : True := trivial
  have tk2 : True := trivial
  go_enter Tryd.func12, Tryd.ntmps12
  go_wp2_with (first
    | (go_at_call 13; refine cN.mono ?_; clear cN; rintro e w1 ⟨rfl, h1, hb1⟩; have H1 : Hid (LsAt w1 _ _ _ ∧ Below w.heap.size w w1) := ⟨h1, hb1⟩; have cS1 := cS.out w1 _ h1 hb1; clear h1 hb1 cS)
    | (go_at_call 15; refine cS1.mono ?_; clear cS1; rintro e w2 ⟨rfl, h2⟩; obtain ⟨F2, L2, k2, n2⟩ := h2.out; have H2 : Hid (LsAt w2 F2 (w.heap.size + 1) wkP ∧ (∀ i, F2 i → w.heap.size ≤ i) ∧ Below w.heap.size w w2) := (by
        have hz := H1.out.2.size
        have hb : Below w.heap.size w (w1.alloc (.cells #[.string ⟨#[100, 101, 110, 121, 32, 105, 110, 32, 106, 105, 100, 32, 66, 111, 98]⟩, .string ⟨#[97, 108, 108, 111, 119, 32, 105, 110, 32, 97, 108, 108]⟩] 9)) := H1.out.2.trans ((below1 w1 _).mono hz)
        exact ⟨L2, fun i hi => (n2 i hi).elim (fun z => z.elim (fun e => by omega) (fun e => by omega)) (fun z => by simp at z; omega), hb.trans (k2.below hb.size (fun i hi => hi.elim (fun e => by omega) (fun e => by omega)))⟩); have a1 := cA1.out w2 F2 L2; clear L2 k2 n2 h2 H1 cA1)
    | (go_at_call 16; clear tk1; refine a1.mono ?_; clear a1; rintro e w3 ⟨rfl, hb3⟩; have H3 : Hid (LsAt w3 F2 (w.heap.size + 1) wkP ∧ (∀ i, F2 i → w.heap.size ≤ i) ∧ Below w.heap.size w w3) := ⟨H2.out.1.below hb3, H2.out.2.1, H2.out.2.2.trans (hb3.mono H2.out.2.2.size)⟩; have a2 := cA2.out w3 F2 H3.out.1; clear hb3 H2 cA2)
    | (go_at_call 16; clear tk2; refine a2.mono ?_; clear a2; rintro e w4 ⟨rfl, hb4⟩; have H4 : Hid (LsAt w4 F2 (w.heap.size + 1) wkP ∧ (∀ i, F2 i → w.heap.size ≤ i) ∧ Below w.heap.size w w4) := ⟨H3.out.1.below hb4, H3.out.2.1, H3.out.2.2.trans (hb4.mono H3.out.2.2.size)⟩; have a3 := cA3.out w4 F2 H4.out.1; clear hb4 H3 cA3)
    | (go_at_call 16; refine a3.mono ?_; clear a3; rintro e w5 ⟨rfl, hb5⟩; have a4 := cD.out w5 F2 (H4.out.1.below hb5) H4.out.2.1 (H4.out.2.2.trans (hb5.mono H4.out.2.2.size)); clear hb5 H4 cD)
    | (go_at_call 25; refine a4.mono ?_; clear a4; rintro e w6 ⟨rfl, hb6⟩))
  go_ret
  exact ⟨rfl, hb6⟩
end Go.Proofs.YtiplalbicibahaaDoor
