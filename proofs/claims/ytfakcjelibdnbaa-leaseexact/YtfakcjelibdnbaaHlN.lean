/- LeaseNever: a lease without an end. -/
import Derived.Test.YtfakcjelibdnbaaHlA
namespace Go.Proofs.Ytfakcjelibdnbaa
open Go.RowKit Go.Joins

def kN : ByteArray := ⟨#[110, 101, 118, 101, 114]⟩
def kO : ByteArray := ⟨#[111, 116, 104, 101, 114]⟩
theorem kNO : kN ≠ kO := by decide

theorem fle_self {x : Nat} (h : Fl.nan x = false) : fle x x = true := by unfold fle; simp [h]
theorem feq_self {x : Nat} (h : Fl.nan x = false) : feq x x = true := by unfold feq; simp [h]
theorem nan_inf : Fl.nan Fl.inf = false := by decide
/-- What is neither NaN nor infinity is less than it. -/
theorem lt_inf {x : Nat} (hx : x < 2 ^ 64) (h : Fl.nan x = false) (h2 : x ≠ Fl.inf) : Fl.sr x < Fl.sr Fl.inf := by
  have hs : Fl.sgn = 9223372036854775808 := rfl
  have hi : Fl.inf = 9218868437227405312 := rfl
  have e : Fl.sr Fl.inf = 9218868437227405312 := by decide
  rw [e]
  unfold Fl.nan at h
  have hr : Fl.rung x ≤ Fl.inf := by simpa using h
  unfold Fl.sr
  cases hn : Fl.neg x with
  | true => rw [if_pos rfl]; omega
  | false =>
    rw [if_neg (by decide)]
    have hxx : Fl.rung x = x := by
      unfold Fl.neg at hn
      unfold Fl.rung
      rw [hs] at *
      have : x / 9223372036854775808 % 2 ≠ 1 := by simpa using hn
      omega
    rw [hxx] at hr ⊢
    omega

theorem set_never {e : Nat} : sets [] kN e = [(kN, e)] := rfl
theorem set_other' (e f : Nat) : sets [(kN, e)] kO f = [(kN, e), (kO, f)] := by
  unfold sets drp
  simp [kNO]
theorem set_again (e f : Nat) : sets [(kN, e)] kN f = [(kN, f)] := by
  unfold sets drp
  simp
theorem due_other {f : Nat} (hf : f < 2 ^ 64) (h : Fl.nan f = false) (h2 : f ≠ Fl.inf) : due [(kN, Fl.inf), (kO, f)] f = ([kO], [(kN, Fl.inf)]) := by
  have h3 := lt_inf hf h h2
  have e1 : fstL [(kN, Fl.inf), (kO, f)] = some (kO, f) := by
    show (if Fl.sr f < Fl.sr Fl.inf then some (kO, f) else some (kN, Fl.inf)) = _
    rw [if_pos h3]
  have hn : Nk [(kN, Fl.inf), (kO, f)] := by
    unfold Nk
    simp [kNO]
  rw [due_take hn e1 (fle_self h)]
  have e2 : drp [(kN, Fl.inf), (kO, f)] kO = [(kN, Fl.inf)] := by
    unfold drp
    simp [kNO]
  show (kO :: (due (drp [(kN, Fl.inf), (kO, f)] kO) f).1, (due (drp [(kN, Fl.inf), (kO, f)] kO) f).2) = _
  rw [e2, due_late (p := (kN, Fl.inf)) rfl]
  show fle Fl.inf f = false
  unfold fle
  rw [h, nan_inf]
  simp
  omega
theorem due_one {f : Nat} (h : Fl.nan f = false) : due [(kN, f)] f = ([kN], []) := by
  have hn : Nk [(kN, f)] := by unfold Nk; simp
  rw [due_take (p := (kN, f)) hn rfl (fle_self h)]
  have e2 : drp [(kN, f)] kN = [] := by unfold drp; simp
  show (kN :: (due (drp [(kN, f)] kN) f).1, (due (drp [(kN, f)] kN) f).2) = _
  rw [e2]
  rfl

theorem DueP.below {w0 w w' : World} {F : Nat → Prop} {q tn : Nat} {K : List ByteArray} {L : Le} {v : Value} (hb : Below w0.heap.size w0 w) (hF : ∀ k, F k → w0.heap.size ≤ k) (h : DueP w w' F q tn K L v) :
    (∃ a c, v = .slice a K.length c ∧ SRd w' a K.length c K) ∧ ∃ F', HAt w' F' q tn L ∧ (∀ k, F' k → w0.heap.size ≤ k) ∧ Below w0.heap.size w0 w' :=
  ⟨SRd.ofOwn h.row, h.dl.dn.below hb hF⟩

set_option maxHeartbeats 4000000 in
theorem never_law (a : Option Addr) (n c : Nat) (u : Nat → Nat) (last : Nat) (w : World) (hR : URd w a n c u) :
    Calls Try.prog 6 #[.slice a n c, .int .u64 last] w fun e w' => e = .returned (.bool true) ∧ Below w.heap.size w w' := by
  have hf := run_from
  have hcap := hR.cap
  have hmost : c ≤ 9223372036854775807 := by have := hR.most; unfold maxLen at this; omega
  have cN := new_any w
  have HR : Hid (URd w a n c u) := hR
  clear hR
  go_enter Try.func6, Try.ntmps6
  go_wp2_with (first
    | (go_at_call 8; refine cN.mono ?_; clear cN; rintro e w1 ⟨q, F1, rfl, hN⟩; obtain ⟨HA0, HF0, HB0⟩ := hN; have cI := infP_any w1; have cS := set_any HA0 kN (by decide) nan_inf (by decide))
    | (go_at_call 13; refine cI.mono ?_; clear cI; rintro e w2 ⟨rfl, hw⟩; rw [hw]; clear hw w2)
    | (go_at_call 18; refine cS.mono ?_; clear cS; rintro e w2 ⟨rfl, hD⟩; obtain ⟨F2, HA1, HF1, HB1⟩ := hD.below HB0 HF0; clear HA0 HF0 HB0; have cW := wakes_any w2)
    | (go_at_call 9; refine cW.mono ?_; clear cW; rintro e w3 ⟨rfl, hb3⟩; replace HA1 := HA1.below hb3; replace HB1 := HB1.trans (hb3.mono HB1.size)))
  rw [set_never] at HA1
  have H1 : Hid (HAt w3 F2 q (0 + 1) [(kN, Fl.inf)] ∧ (∀ k, F2 k → w.heap.size ≤ k) ∧ Below w.heap.size w w3) := ⟨HA1, HF1, HB1⟩
  clear HA1 HF1 HB1 hb3
  have hnN := nan_neq last
  go_loopg [6] 60 (fun kx s6 wr => ∃ (i tn : Nat) (F' : Nat → Prop), s6 = .int .i64 i ∧ i + kx = 60 ∧ tn ≤ i + 1 ∧ Hid (HAt wr F' q tn [(kN, Fl.inf)] ∧ (∀ k, F' k → w.heap.size ≤ k) ∧ Below w.heap.size w wr))
  case atStart => exact ⟨0, 1, F2, rfl, rfl, Nat.le_refl _, H1⟩
  case round =>
    clear H1 hD
    obtain ⟨i, tn, F', rfl, hik, htn, HH⟩ := hrel
    by_cases h1 : i < n
    · have h1z : (i : Int) < (n : Int) := by omega
      by_cases h2 : i < 60
      · have h2z : (i : Int) < 60 := by omega
        obtain ⟨b, off, rfl, hcell⟩ := (HR.out.below HH.out.2.2).flat (by omega)
        obtain ⟨hu, hc⟩ := hcell i h1
        clear hcell
        generalize u i = x at hu hc
        have hn := nan_neq x
        cases hx : Fl.nan x with
        | true =>
          rw [hx] at hn
          clear hx
          go_wp2
          go_roundg (gk - 1)
          case measure => omega
          case rel => exact ⟨i + 1, tn, F', by go_num, by omega, by omega, HH⟩
        | false =>
          rw [hx] at hn
          have cI := isInf_pos x hu wr
          by_cases hxi : x = Fl.inf
          · rw [decide_eq_true hxi] at cI
            clear hx hxi
            go_wp2_with (go_at_call 23; refine cI.mono ?_; clear cI; rintro e w5 ⟨rfl, hw⟩; rw [hw]; clear hw w5)
            go_roundg (gk - 1)
            case measure => omega
            case rel => exact ⟨i + 1, tn, F', by go_num, by omega, by omega, HH⟩
          · rw [decide_eq_false hxi] at cI
            have cS := set_any HH.out.1 kO (by decide) hx (by omega)
            rw [set_other'] at cS
            have HD : Hid (due [(kN, Fl.inf), (kO, x)] x = ([kO], [(kN, Fl.inf)])) := due_other hu hx hxi
            clear hx hxi
            go_wp2_with (first
              | (go_at_call 23; refine cI.mono ?_; clear cI; rintro e w5 ⟨rfl, hw⟩; rw [hw]; clear hw w5)
              | (go_at_call 18; refine cS.mono ?_; clear cS; rintro e w5 ⟨rfl, hD⟩; obtain ⟨F5, HA5, HF5, HB5⟩ := hD.below HH.out.2.2 HH.out.2.1; have cD := due_any HA5 x (by omega); rw [HD.out] at cD)
              | (go_at_call 12; refine cD.mono ?_; clear cD; rintro e w6 ⟨v, rfl, hP⟩; obtain ⟨⟨a6, c6, rfl, hS6⟩, F6, HA6, HF6, HB6⟩ := hP.below HB5 HF5; clear hP; have cL := lenH_any HA6)
              | (go_at_call 15; refine cL.mono ?_; clear cL; rintro e w7 ⟨rfl, hw⟩; rw [hw]; clear hw w7))
            go_roundg (gk - 1)
            case measure => omega
            case rel => exact ⟨i + 1, tn + 1, F6, by go_num, by omega, by omega, HA6, HF6, HB6⟩
      · have h2z : ¬ ((i : Int) < 60) := by omega
        cases hnl : Fl.nan last with
        | true =>
          rw [hnl] at hnN
          have cS := set_nan (w := wr) (q := q) kN hnl
          have cL := lenH_any HH.out.1
          clear hnl
          go_wp2_with (first
            | (go_at_call 18; refine cS.mono ?_; clear cS; rintro e w5 ⟨rfl, hw⟩; rw [hw]; clear hw w5)
            | (go_at_call 15; refine cL.mono ?_; clear cL; rintro e w5 ⟨rfl, hw⟩; rw [hw]; clear hw w5))
          go_ret
          exact ⟨rfl, HH.out.2.2⟩
        | false =>
          rw [hnl] at hnN
          have cS := set_any HH.out.1 kN (by decide) hnl (by omega)
          rw [set_again] at cS
          have HNL : Hid (Fl.nan last = false) := hnl
          have heq := f64_eq last last
          rw [feq_self hnl] at heq
          clear hnl
          go_wp2_with (first
            | (go_at_call 18; refine cS.mono ?_; clear cS; rintro e w5 ⟨rfl, hD⟩; obtain ⟨F5, HA5, HF5, HB5⟩ := hD.below HH.out.2.2 HH.out.2.1; have cE := end_any HA5 kN (by decide); rw [lk_mem (p := (kN, last)) HA5.nk List.mem_cons_self] at cE; have cD := due_any HA5 last (by omega); rw [due_one HNL.out] at cD)
            | (go_at_call 19; refine cE.mono ?_; clear cE; rintro e w6 ⟨rfl, hw⟩; rw [hw]; clear hw w6)
            | (go_at_call 12; refine cD.mono ?_; clear cD; rintro e w6 ⟨v, rfl, hP⟩; obtain ⟨⟨a6, c6, rfl, hS6⟩, F6, HA6, HF6, HB6⟩ := hP.below HB5 HF5; clear hP; have cL := lenH_any HA6)
            | (go_at_call 15; refine cL.mono ?_; clear cL; rintro e w7 ⟨rfl, hw⟩; rw [hw]; clear hw w7))
          go_ret
          exact ⟨rfl, HB6⟩
        
    · have h1z : ¬ ((i : Int) < (n : Int)) := by omega
      cases hnl : Fl.nan last with
      | true =>
        rw [hnl] at hnN
        have cS := set_nan (w := wr) (q := q) kN hnl
        have cL := lenH_any HH.out.1
        clear hnl
        go_wp2_with (first
          | (go_at_call 18; refine cS.mono ?_; clear cS; rintro e w5 ⟨rfl, hw⟩; rw [hw]; clear hw w5)
          | (go_at_call 15; refine cL.mono ?_; clear cL; rintro e w5 ⟨rfl, hw⟩; rw [hw]; clear hw w5))
        go_ret
        exact ⟨rfl, HH.out.2.2⟩
      | false =>
        rw [hnl] at hnN
        have cS := set_any HH.out.1 kN (by decide) hnl (by omega)
        rw [set_again] at cS
        have HNL : Hid (Fl.nan last = false) := hnl
        have heq := f64_eq last last
        rw [feq_self hnl] at heq
        clear hnl
        go_wp2_with (first
          | (go_at_call 18; refine cS.mono ?_; clear cS; rintro e w5 ⟨rfl, hD⟩; obtain ⟨F5, HA5, HF5, HB5⟩ := hD.below HH.out.2.2 HH.out.2.1; have cE := end_any HA5 kN (by decide); rw [lk_mem (p := (kN, last)) HA5.nk List.mem_cons_self] at cE; have cD := due_any HA5 last (by omega); rw [due_one HNL.out] at cD)
          | (go_at_call 19; refine cE.mono ?_; clear cE; rintro e w6 ⟨rfl, hw⟩; rw [hw]; clear hw w6)
          | (go_at_call 12; refine cD.mono ?_; clear cD; rintro e w6 ⟨v, rfl, hP⟩; obtain ⟨⟨a6, c6, rfl, hS6⟩, F6, HA6, HF6, HB6⟩ := hP.below HB5 HF5; clear hP; have cL := lenH_any HA6)
          | (go_at_call 15; refine cL.mono ?_; clear cL; rintro e w7 ⟨rfl, hw⟩; rw [hw]; clear hw w7))
        go_ret
        exact ⟨rfl, HB6⟩
      
end Go.Proofs.Ytfakcjelibdnbaa
