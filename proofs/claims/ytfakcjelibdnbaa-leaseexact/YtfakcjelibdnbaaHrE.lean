/- lease: the law's plays. -/
import Derived.Test.YtfakcjelibdnbaaHrD
import Derived.Test.YtfakcjelibdnbaaHuB
import Derived.Deep.QuietTactic
namespace Go.Proofs.Ytfakcjelibdnbaa
open Go.RowKit Go.Joins

theorem below_drewN (w : World) (q : Nat) : Below w.heap.size w (w.drewN q) := ⟨rfl, rfl, rfl, Nat.le_refl _, fun _ _ => rfl⟩

/-- A heap of the program's beside one of the document's. -/
structure Pr (w : World) (q r tn : Nat) (La Lr : Le) (F G : Nat → Prop) : Prop where
  ha : HAt w F q tn La
  hr : RAt w G r Lr
  ap : ∀ k, F k → ¬ G k
section
variable {w w' : World} {q r tn : Nat} {La Lr : Le} {F G : Nat → Prop}
theorem Pr.below (h : Pr w q r tn La Lr F G) (hb : Below w.heap.size w w') : Pr w' q r tn La Lr F G := ⟨h.ha.below hb, h.hr.below hb, h.ap⟩
theorem Pr.keep {S : Nat → Prop} (h : Pr w q r tn La Lr F G) (hk : Keep S w w') (hS : ∀ x, F x ∨ G x → ¬ S x) : Pr w' q r tn La Lr F G := ⟨h.ha.keep hk (fun x hx => hS x (.inl hx)), h.hr.keep hk (fun x hx => hS x (.inr hx)), h.ap⟩
theorem Pr.left {t' : Nat} {L' : Le} (h : Pr w q r tn La Lr F G) (hd : Dn w w' F q t' L') : ∃ F', Pr w' q r t' L' Lr F' G ∧ (∀ x, F' x → F x ∨ w.heap.size ≤ x) ∧ Keep F w w' := by
  obtain ⟨F', h1, h2, h3⟩ := hd
  refine ⟨F', ⟨h1, h.hr.keep h3 (fun k hg hf => h.ap k hf hg), fun k hf hg => ?_⟩, h2, h3⟩
  rcases h2 k hf with g | g
  · exact h.ap k g hg
  · have := h.hr.lt hg; omega
theorem Pr.right {L' : Le} (h : Pr w q r tn La Lr F G) (hd : Rn w w' G r L') : ∃ G', Pr w' q r tn La L' F G' ∧ (∀ x, G' x → G x ∨ w.heap.size ≤ x) ∧ Keep G w w' := by
  obtain ⟨G', h1, h2, h3⟩ := hd
  refine ⟨G', ⟨h.ha.keep h3 (fun k hf hg => h.ap k hf hg), h1, fun k hf hg => ?_⟩, h2, h3⟩
  rcases h2 k hg with g | g
  · exact h.ap k hf g
  · have := h.ha.lt hf; omega
theorem Pr.lt (h : Pr w q r tn La Lr F G) {x : Nat} (hx : F x ∨ G x) : x < w.heap.size := hx.elim (fun h' => h.ha.lt h') (fun h' => h.hr.lt h')
end

/-- What a play leaves. -/
def Po (w w' : World) (q r tn : Nat) (F G : Nat → Prop) : Prop := ∃ tn' L' F' G', tn' ≤ tn + 1 ∧ Pr w' q r tn' L' L' F' G' ∧ (∀ x, F' x ∨ G' x → (F x ∨ G x) ∨ w.heap.size ≤ x) ∧ Keep (fun x => F x ∨ G x) w w'
theorem Po.same {w w' : World} {q r tn : Nat} {L : Le} {F G : Nat → Prop} (h : Pr w q r tn L L F G) (hb : Below w.heap.size w w') : Po w w' q r tn F G := ⟨tn, L, F, G, by omega, h.below hb, fun x hx => .inl hx, Keep.ofBelow hb⟩
theorem Po.two {w w0 w1 w2 : World} {q r tn tn' : Nat} {L' : Le} {F G F' G' : Nat → Prop} (hb : Below w.heap.size w w0) (h1 : ∀ x, F' x → F x ∨ w0.heap.size ≤ x) (k1 : Keep F w0 w1) (h2 : ∀ x, G' x → G x ∨ w1.heap.size ≤ x) (k2 : Keep G w1 w2) (ht : tn' ≤ tn + 1) (hp : Pr w2 q r tn' L' L' F' G') : Po w w2 q r tn F G := by
  have s0 := hb.size
  have s1 := k1.size
  refine ⟨tn', L', F', G', ht, hp, fun x hx => ?_, ((Keep.ofBelow hb).trans (k1.mono fun x h => .inl h)).trans (k2.mono fun x h => .inr h)⟩
  rcases hx with hx | hx
  · rcases h1 x hx with g | g
    · exact .inl (.inl g)
    · exact .inr (by omega)
  · rcases h2 x hx with g | g
    · exact .inl (.inr g)
    · exact .inr (by omega)

/-- The boxed call. -/
theorem box_at (w : World) (x : Opx) : ∀ w', Below (w.alloc (.cells #[.int .i64 x.on, .int .i64 x.act, .string x.k, .int .u64 (x.f : Int)] 35)).heap.size (w.alloc (.cells #[.int .i64 x.on, .int .i64 x.act, .string x.k, .int .u64 (x.f : Int)] 35)) w' →
    w'.cell? ⟨w.heap.size, 1, none⟩ = some (.int .i64 x.act) ∧ w'.cell? ⟨w.heap.size, 2, none⟩ = some (.string x.k) ∧ w'.cell? ⟨w.heap.size, 3, none⟩ = some (.int .u64 (x.f : Int)) := fun w' hb => by
  have h1 := (hb.block w.heap.size (by simp)).trans (alloc_at w (.cells #[.int .i64 x.on, .int .i64 x.act, .string x.k, .int .u64 (x.f : Int)] 35))
  refine ⟨?_, ?_, ?_⟩
  · rw [cell_of_block h1]; rfl
  · rw [cell_of_block h1]; rfl
  · rw [cell_of_block h1]; rfl

set_option maxRecDepth 100000 in
set_option maxHeartbeats 8000000 in
theorem plays_any {w : World} {q r tn : Nat} {L : Le} {F G : Nat → Prop} (h : Pr w q r tn L L F G) (x : Opx) (htn : tn < 1000) :
    Calls Try.prog 10 #[.pointer (some ⟨q, 0, none⟩), .pointer (some ⟨r, 0, none⟩), .agg #[.int .i64 x.on, .int .i64 x.act, .string x.k, .int .u64 (x.f : Int)]] w fun e w' => e = .returned (.bool true) ∧ Po w w' q r tn F G := by
  have hf := run_from
  have hbx := box_at w x
  have hb0 : Below w.heap.size w (w.alloc (.cells #[.int .i64 x.on, .int .i64 x.act, .string x.k, .int .u64 (x.f : Int)] 35)) := (Below.refl _ _).alloc (Nat.le_refl _) _
  go_enter Try.func10, Try.ntmps10
  go_upto_region 1 with fail
  obtain ⟨w0, hw0⟩ : ∃ w0, w.alloc (.cells #[.int .i64 x.on, .int .i64 x.act, .string x.k, .int .u64 (x.f : Int)] 35) = w0 := ⟨_, rfl⟩
  rw [hw0] at hbx hb0 ⊢
  obtain ⟨q1, q2, q3⟩ := hbx w0 (Below.refl _ _)
  have HP : Hid (Pr w0 q r tn L L F G) := h.below hb0
  have HW : Hid (Pr w q r tn L L F G) := h
  have HB : Hid (Below w.heap.size w w0) := hb0
  have HL : Hid (L.length ≤ tn ∧ Nk L ∧ (∀ p ∈ L, Fl.nan p.2 = false)) := ⟨h.ha.ltn, h.ha.nk, h.ha.num⟩
  have cT := text30 x.k w0
  have hks := cut30_size x.k
  clear hw0 hbx hb0 h
  generalize w.heap.size = bb at q1 q2 q3 ⊢
  go_upto_region 3 with (go_at_call 17; refine cT.mono ?_; clear cT; rintro e w5 ⟨rfl, hw⟩; rw [hw]; clear hw w5)
  clear q2 q3
  generalize cut30 x.k = kk at hks ⊢
  generalize x.f = ff
  generalize x.act = A at q1
  obtain ⟨ak, ck, ae, ce, hRI, hgg⟩ := HP.out.hr
  by_cases a1 : A = 1
  · subst a1
    cases hx : Fl.nan ff with
    | true =>
      have cS := set_nan (w := w0) (q := q) kk hx
      have cR := rset_nan (w := w0) (r := r) kk hx
      clear hx hRI hgg
      go_wp2_with (first
        | (go_at_call 18; refine cS.mono ?_; clear cS; rintro e w5 ⟨rfl, hw⟩; rw [hw]; clear hw w5)
        | (go_at_call 26; refine cR.mono ?_; clear cR; rintro e w5 ⟨rfl, hw⟩; rw [hw]; clear hw w5))
      go_ret
      exact ⟨rfl, Po.same HW.out HB.out⟩
    | false =>
      have cS := set_any HP.out.ha kk (by omega) hx (by omega)
      have HX : Hid (Fl.nan ff = false) := hx
      clear hx hRI hgg
      go_wp2_with (first
        | (go_at_call 18; refine cS.mono ?_; clear cS; rintro e w1 ⟨rfl, hD⟩; obtain ⟨F1, hP1, hs1, hk1⟩ := HP.out.left hD; have cR := rset_any hP1.hr kk HX.out (by have := HL.out.1; omega) HL.out.2.1)
        | (go_at_call 26; refine cR.mono ?_; clear cR; rintro e w2 ⟨rfl, hD2⟩; obtain ⟨G1, hP2, hs2, hk2⟩ := hP1.right hD2))
      go_ret
      exact ⟨rfl, Po.two HB.out hs1 hk1 hs2 hk2 (Nat.le_refl _) hP2⟩
  · by_cases a2 : A = 2
    · subst a2
      have cS := drop_any HP.out.ha kk (by omega)
      obtain ⟨b1, hb1⟩ : ∃ b1, (lk L kk).isSome = b1 := ⟨_, rfl⟩
      rw [hb1] at cS
      have HB1 : Hid ((lk L kk).isSome = b1) := hb1
      clear hRI hgg a1 hb1
      go_wp2_with (first
        | (go_at_call 25; refine cS.mono ?_; clear cS; rintro e w1 ⟨rfl, hD⟩; obtain ⟨F1, hP1, hs1, hk1⟩ := HP.out.left hD.dn; have cR := rdrop_any hP1.hr kk (by have := HL.out.1; omega) HL.out.2.1; rw [HB1.out] at cR)
        | (go_at_call 27; refine cR.mono ?_; clear cR; rintro e w2 ⟨rfl, hD2⟩; obtain ⟨G1, hP2, hs2, hk2⟩ := hP1.right hD2))
      go_ret
      exact ⟨by simp, Po.two HB.out hs1 hk1 hs2 hk2 (Nat.le_succ tn) hP2⟩
    · by_cases a3 : A = 3
      · subst a3
        have cS := end_any HP.out.ha kk (by omega)
        have cR := rend_any hRI kk (by have := HL.out.1; omega) HL.out.2.1
        have cM := same_any ((lk L kk).getD 0) w0
        generalize (lk L kk).getD 0 = xx at cS cR cM
        generalize (lk L kk).isSome = b1 at cS cR
        clear hRI hgg a1 a2
        cases b1
        all_goals
          go_wp2_with (first
            | (go_at_call 19; refine cS.mono ?_; clear cS; rintro e w5 ⟨rfl, hw⟩; rw [hw]; clear hw w5)
            | (go_at_call 28; refine cR.mono ?_; clear cR; rintro e w5 ⟨rfl, hw⟩; rw [hw]; clear hw w5)
            | (go_at_call 22; refine cM.mono ?_; clear cM; rintro e w5 ⟨rfl, hw⟩; rw [hw]; clear hw w5))
          go_ret
          exact ⟨rfl, Po.same HW.out HB.out⟩
      · by_cases a4 : A = 4
        · subst a4
          have cS := due_any HP.out.ha ff (by omega)
          clear hRI hgg a1 a2 a3
          go_wp2_with (first
            | (go_at_call 12; refine cS.mono ?_; clear cS; rintro e w1 ⟨v1, rfl, hD⟩; obtain ⟨a5, c5, rfl, hS5⟩ := SRd.ofOwn hD.row; have hfar : ∀ ad, a5 = some ad → w0.heap.size ≤ ad.block := (fun ad ha => by
                rcases hD.row.2 with ⟨e, _⟩ | ⟨g5, cap, cur, e, hg5, _⟩
                · rw [ha] at e; cases e
                · rw [ha] at e
                  injection e with e _ _
                  have e2 : ad = ⟨g5, 0, none⟩ := Option.some.inj e
                  rw [e2]; exact hg5); obtain ⟨F1, hP1, hs1, hk1⟩ := HP.out.left hD.dl.dn; have cR := rdue_any hP1.hr ff (by have := HL.out.1; omega) HL.out.2.1 HL.out.2.2)
            | (go_at_call 14; refine cR.mono ?_; clear cR; rintro e w2 ⟨v2, rfl, hrow2, hD2⟩; obtain ⟨a6, c6, rfl, hS6⟩ := SRd.ofOwn hrow2; obtain ⟨G1, hP2, hs2, hk2⟩ := hP1.right hD2)
            | (go_at_call 11; refine (kSame_true a5 _ c5 a6 c6 (due L ff).1 w2 (hS5.keep hk2 (fun ad ha hG => by have h1 := hfar ad ha; have h2 := HP.out.hr.lt hG; omega)) hS6).mono ?_; rintro e w3 ⟨rfl, hb3⟩))
          go_ret
          refine ⟨rfl, ?_⟩
          obtain ⟨tn', L', F', G', g1, g2, g3, g4⟩ := Po.two HB.out hs1 hk1 hs2 hk2 (Nat.le_succ tn) hP2
          exact ⟨tn', L', F', G', g1, g2.below hb3, g3, g4.trans (Keep.ofBelow hb3)⟩
        · have cS := next_any HP.out.ha
          have cR := rnext_any hRI (by have := HL.out.1; omega) HL.out.2.2
          have hnn : Fl.nan (((fstL L).map (·.2)).getD 0) = false := by
            cases hfs : fstL L with
            | none => decide
            | some p => exact HL.out.2.2 p (fstL_mem hfs)
          have heq := f64_eq (((fstL L).map (·.2)).getD 0) (((fstL L).map (·.2)).getD 0)
          rw [feq_self hnn] at heq
          have cC : ∀ k, (w0.drewN k).cell? ⟨r, 0, none⟩ = some (.slice (ak.map fun b => ⟨b, 0, none⟩) L.length ck) := fun k => hRI.c0
          generalize ((fstL L).map (·.2)).getD 0 = v0 at *
          generalize (fstL L).isSome = b1 at *
          have a1' : (A == 1) = false := by simpa using a1
          have a2' : (A == 2) = false := by simpa using a2
          have a3' : (A == 3) = false := by simpa using a3
          have a4' : (A == 4) = false := by simpa using a4
          clear hRI hgg a1 a2 a3 a4 hnn
          go_upto_region 16 with (first
            | (go_at_call 29; refine cS.mono ?_; clear cS; rintro e w5 ⟨rfl, hw⟩; rw [hw]; clear hw w5)
            | (go_at_call 30; refine cR.mono ?_; clear cR; rintro e w1 ⟨rfl, k1, rfl⟩))
          have cC1 := cC k1
          have HB1 : Hid (Below w.heap.size w (w0.drewN k1)) := HB.out.trans ((below_drewN w0 k1).mono HB.out.size)
          have hP1 := HP.out.below (below_drewN w0 k1)
          clear cC
          generalize w0.drewN k1 = W1 at *
          have cL := fun n => lenH_any (hP1.ha.below (below_drewN W1 n))
          clear hP1
          go_quiet ((go_at_call 15; refine Calls.quiet_of_same (cL _)))
          go_wp2
          go_ret
          exact ⟨rfl, Po.same HW.out (HB1.out.trans ((below_drewN W1 nq).mono HB1.out.size))⟩

end Go.Proofs.Ytfakcjelibdnbaa
