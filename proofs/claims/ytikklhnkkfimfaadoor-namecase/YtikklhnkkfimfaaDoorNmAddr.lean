/- address: the parts of a text, each prepared; or how it gives up. -/
import Derived.Test.YtikklhnkkfimfaaDoorNmBegunJ
import Derived.Test.YtikklhnkkfimfaaDoorNmCut
namespace Go.Proofs.YtikklhnkkfimfaaDoor
open Go.RowKit

abbrev noS : Value := .string ⟨#[]⟩

/-- The address that is made lies in the block behind w's, as told; all of w stands. -/
structure St (w W : World) (a b c : Value) : Prop where
  below : Below w.heap.size w W
  at_ : W.heap[w.heap.size]? = some (.cells #[a, b, c] 31 (0, 0))
theorem St.new (w : World) : St w (w.alloc (.cells #[noS, noS, noS] 31)) noS noS noS :=
  ⟨(Below.refl _ _).alloc (Nat.le_refl _) _, by show (w.heap.push (.cells #[noS, noS, noS] 31))[w.heap.size]? = _; simp⟩
theorem St.lt {w W : World} {a b c : Value} (h : St w W a b c) : w.heap.size < W.heap.size := (Array.getElem?_eq_some_iff.1 h.at_).1
theorem St.call {w W W' : World} {a b c : Value} (h : St w W a b c) (hb : Below W.heap.size W W') : St w W' a b c :=
  ⟨h.below.trans (hb.mono (Nat.le_of_lt h.lt)), (hb.block _ h.lt).trans h.at_⟩
theorem St.put0 {w W : World} {a b c : Value} (h : St w W a b c) (x : Value) : St w (W.setCell ⟨w.heap.size, 0, none⟩ x) x b c :=
  ⟨h.below.setCell (p := ⟨w.heap.size, 0, none⟩) (Nat.le_refl _) _, by simp [World.setCell, Array.getElem?_modify, h.at_]⟩
theorem St.put1 {w W : World} {a b c : Value} (h : St w W a b c) (x : Value) : St w (W.setCell ⟨w.heap.size, 1, none⟩ x) a x c :=
  ⟨h.below.setCell (p := ⟨w.heap.size, 1, none⟩) (Nat.le_refl _) _, by simp [World.setCell, Array.getElem?_modify, h.at_]⟩
theorem St.put2 {w W : World} {a b c : Value} (h : St w W a b c) (x : Value) : St w (W.setCell ⟨w.heap.size, 2, none⟩ x) a b x :=
  ⟨h.below.setCell (p := ⟨w.heap.size, 2, none⟩) (Nat.le_refl _) _, by simp [World.setCell, Array.getElem?_modify, h.at_]⟩
theorem St.c0 {w W : World} {a b c : Value} (h : St w W a b c) : W.cell? ⟨w.heap.size, 0, none⟩ = some a := cell_three0 h.at_
theorem St.c1 {w W : World} {a b c : Value} (h : St w W a b c) : W.cell? ⟨w.heap.size, 1, none⟩ = some b := cell_three1 h.at_
theorem St.c2 {w W : World} {a b c : Value} (h : St w W a b c) : W.cell? ⟨w.heap.size, 2, none⟩ = some c := cell_three2 h.at_
theorem St.f {w W : World} {a b c : Value} (h : St w W a b c) (i : Nat) : W.frozen? ⟨w.heap.size, i, none⟩ = false := thaw_three h.at_ i
theorem St.tabs {w W : World} {a b c : Value} (h : St w W a b c) (hT : Lib.Utf8Tabs 0 1 w) : Lib.Utf8Tabs 0 1 W := tabs_below hT h.below

/-- What a part was, or how it was given up. -/
def Parts (f : Nat) (l : List UInt8) (p : List UInt8 × Nat) : Prop := ∀ W, Lib.Utf8Tabs 0 1 W → Calls Tryd.prog f #[.string ⟨l.toArray⟩] W fun e W' => Gave p e ∧ Below W.heap.size W W'
theorem Parts.ok {f : Nat} {l : List UInt8} {p : List UInt8 × Nat} (h : Parts f l p) (h0 : p.2 = 0) (W : World) (hT : Lib.Utf8Tabs 0 1 W) : Calls Tryd.prog f #[.string ⟨l.toArray⟩] W fun e W' => e = .returned (.string ⟨p.1.toArray⟩) ∧ Below W.heap.size W W' :=
  (h W hT).mono fun _ _ k => ⟨k.1.elim (fun q => q.2) (fun q => absurd h0 q.1), k.2⟩
theorem Parts.no {f : Nat} {l : List UInt8} {p : List UInt8 × Nat} (h : Parts f l p) (h0 : p.2 ≠ 0) (W : World) (hT : Lib.Utf8Tabs 0 1 W) : Calls Tryd.prog f #[.string ⟨l.toArray⟩] W fun e W' => e = .panicked (gaveUp p.2) ∧ Below W.heap.size W W' :=
  (h W hT).mono fun _ _ k => ⟨k.1.elim (fun q => absurd q.1 h0) (fun q => q.2), k.2⟩
def Cuts (l : List UInt8) (t : ByteArray) (a z : List UInt8) (h : Bool) : Prop := ∀ W, Calls Tryd.prog 50 #[.string ⟨l.toArray⟩, .string t] W fun e W' => e = .returned (.tuple #[.string ⟨a.toArray⟩, .string ⟨z.toArray⟩, .bool h]) ∧ Below W.heap.size W W'

def joinJ (pL pH pR : List UInt8 × Nat) : Jid × Nat :=
  if pL.2 ≠ 0 then (noJid, pL.2) else if pH.2 ≠ 0 then (noJid, pH.2) else if pR.2 ≠ 0 then (noJid, pR.2) else (⟨pL.1, pH.1, pR.1⟩, 0)

set_option maxHeartbeats 1600000 in
theorem addr_ttL (l A Z A2 Z2 : List UInt8) (pL : List UInt8 × Nat) (w : World) (hT : Lib.Utf8Tabs 0 1 w) (C1 : Cuts l ⟨#[47]⟩ A Z true) (C2 : Cuts A ⟨#[64]⟩ A2 Z2 true) (CL : Parts 24 A2 pL) (kL : pL.2 ≠ 0) :
    Calls Tryd.prog 34 #[.string ⟨l.toArray⟩] w fun e w' => e = .panicked (gaveUp pL.2) ∧ Below w.heap.size w w' := by
  have tok : True := trivial
  go_enter Tryd.func34, Tryd.ntmps34
  go_wp2_with (first
    | (go_at_call 50; clear tok; refine (C1 _).mono ?_; rintro e w1 ⟨rfl, hb1⟩; have h1 := (St.new w).call hb1)
    | (go_at_call 50; refine (C2 _).mono ?_; rintro e w2 ⟨rfl, hb2⟩; have h2 := h1.call hb2; have a0 := h2.c0; have a1 := h2.c1; have a2 := h2.c2; have g0 := h2.f 0; have g1 := h2.f 1; have g2 := h2.f 2)
    | (go_at_call 24; refine (CL.no kL _ (h2.tabs hT)).mono ?_; rintro e w3 ⟨rfl, hb3⟩; have h3 := h2.call hb3))
  exact ⟨rfl, rfl, h3.below⟩

set_option maxHeartbeats 1600000 in
theorem addr_ttH (l A Z A2 Z2 : List UInt8) (pL pH : List UInt8 × Nat) (w : World) (hT : Lib.Utf8Tabs 0 1 w) (C1 : Cuts l ⟨#[47]⟩ A Z true) (C2 : Cuts A ⟨#[64]⟩ A2 Z2 true) (CL : Parts 24 A2 pL) (kL : pL.2 = 0) (CH : Parts 29 Z2 pH) (kH : pH.2 ≠ 0) :
    Calls Tryd.prog 34 #[.string ⟨l.toArray⟩] w fun e w' => e = .panicked (gaveUp pH.2) ∧ Below w.heap.size w w' := by
  have tok : True := trivial
  go_enter Tryd.func34, Tryd.ntmps34
  go_wp2_with (first
    | (go_at_call 50; clear tok; refine (C1 _).mono ?_; rintro e w1 ⟨rfl, hb1⟩; have h1 := (St.new w).call hb1)
    | (go_at_call 50; refine (C2 _).mono ?_; rintro e w2 ⟨rfl, hb2⟩; have h2 := h1.call hb2; have a0 := h2.c0; have a1 := h2.c1; have a2 := h2.c2; have g0 := h2.f 0; have g1 := h2.f 1; have g2 := h2.f 2)
    | (go_at_call 24; refine (CL.ok kL _ (h2.tabs hT)).mono ?_; rintro e w3 ⟨rfl, hb3⟩; have k3 := h2.call hb3; have b0 := k3.c0; have b1 := k3.c1; have b2 := k3.c2; have e0 := k3.f 0; have e1 := k3.f 1; have e2 := k3.f 2; have h3 := k3.put0 (.string ⟨pL.1.toArray⟩))
    | (go_at_call 29; refine (CH.no kH _ (h3.tabs hT)).mono ?_; rintro e w4 ⟨rfl, hb4⟩; have h4 := h3.call hb4))
  exact ⟨rfl, rfl, h4.below⟩

set_option maxHeartbeats 1600000 in
theorem addr_ttR (l A Z A2 Z2 : List UInt8) (pL pH pR : List UInt8 × Nat) (w : World) (hT : Lib.Utf8Tabs 0 1 w) (C1 : Cuts l ⟨#[47]⟩ A Z true) (C2 : Cuts A ⟨#[64]⟩ A2 Z2 true) (CL : Parts 24 A2 pL) (kL : pL.2 = 0) (CH : Parts 29 Z2 pH) (kH : pH.2 = 0) (CR : Parts 31 Z pR) (kR : pR.2 ≠ 0) :
    Calls Tryd.prog 34 #[.string ⟨l.toArray⟩] w fun e w' => e = .panicked (gaveUp pR.2) ∧ Below w.heap.size w w' := by
  have tok : True := trivial
  go_enter Tryd.func34, Tryd.ntmps34
  go_wp2_with (first
    | (go_at_call 50; clear tok; refine (C1 _).mono ?_; rintro e w1 ⟨rfl, hb1⟩; have h1 := (St.new w).call hb1)
    | (go_at_call 50; refine (C2 _).mono ?_; rintro e w2 ⟨rfl, hb2⟩; have h2 := h1.call hb2; have a0 := h2.c0; have a1 := h2.c1; have a2 := h2.c2; have g0 := h2.f 0; have g1 := h2.f 1; have g2 := h2.f 2)
    | (go_at_call 24; refine (CL.ok kL _ (h2.tabs hT)).mono ?_; rintro e w3 ⟨rfl, hb3⟩; have k3 := h2.call hb3; have b0 := k3.c0; have b1 := k3.c1; have b2 := k3.c2; have e0 := k3.f 0; have e1 := k3.f 1; have e2 := k3.f 2; have h3 := k3.put0 (.string ⟨pL.1.toArray⟩))
    | (go_at_call 29; refine (CH.ok kH _ (h3.tabs hT)).mono ?_; rintro e w4 ⟨rfl, hb4⟩; have k4 := h3.call hb4; have d0 := k4.c0; have d1 := k4.c1; have d2 := k4.c2; have i0 := k4.f 0; have i1 := k4.f 1; have i2 := k4.f 2; have h4 := k4.put1 (.string ⟨pH.1.toArray⟩))
    | (go_at_call 31; refine (CR.no kR _ (h4.tabs hT)).mono ?_; rintro e w5 ⟨rfl, hb5⟩; have h5 := h4.call hb5))
  exact ⟨rfl, rfl, h5.below⟩

set_option maxHeartbeats 1600000 in
theorem addr_tto (l A Z A2 Z2 : List UInt8) (pL pH pR : List UInt8 × Nat) (w : World) (hT : Lib.Utf8Tabs 0 1 w) (C1 : Cuts l ⟨#[47]⟩ A Z true) (C2 : Cuts A ⟨#[64]⟩ A2 Z2 true) (CL : Parts 24 A2 pL) (kL : pL.2 = 0) (CH : Parts 29 Z2 pH) (kH : pH.2 = 0) (CR : Parts 31 Z pR) (kR : pR.2 = 0) :
    Calls Tryd.prog 34 #[.string ⟨l.toArray⟩] w fun e w' => e = .returned (.agg #[.string ⟨pL.1.toArray⟩, .string ⟨pH.1.toArray⟩, .string ⟨pR.1.toArray⟩]) ∧ Below w.heap.size w w' := by
  have tok : True := trivial
  go_enter Tryd.func34, Tryd.ntmps34
  go_wp2_with (first
    | (go_at_call 50; clear tok; refine (C1 _).mono ?_; rintro e w1 ⟨rfl, hb1⟩; have h1 := (St.new w).call hb1)
    | (go_at_call 50; refine (C2 _).mono ?_; rintro e w2 ⟨rfl, hb2⟩; have h2 := h1.call hb2; have a0 := h2.c0; have a1 := h2.c1; have a2 := h2.c2; have g0 := h2.f 0; have g1 := h2.f 1; have g2 := h2.f 2)
    | (go_at_call 24; refine (CL.ok kL _ (h2.tabs hT)).mono ?_; rintro e w3 ⟨rfl, hb3⟩; have k3 := h2.call hb3; have b0 := k3.c0; have b1 := k3.c1; have b2 := k3.c2; have e0 := k3.f 0; have e1 := k3.f 1; have e2 := k3.f 2; have h3 := k3.put0 (.string ⟨pL.1.toArray⟩))
    | (go_at_call 29; refine (CH.ok kH _ (h3.tabs hT)).mono ?_; rintro e w4 ⟨rfl, hb4⟩; have k4 := h3.call hb4; have d0 := k4.c0; have d1 := k4.c1; have d2 := k4.c2; have i0 := k4.f 0; have i1 := k4.f 1; have i2 := k4.f 2; have h4 := k4.put1 (.string ⟨pH.1.toArray⟩))
    | (go_at_call 31; refine (CR.ok kR _ (h4.tabs hT)).mono ?_; rintro e w5 ⟨rfl, hb5⟩; have k5 := h4.call hb5; have j0 := k5.c0; have j1 := k5.c1; have j2 := k5.c2; have l0 := k5.f 0; have l1 := k5.f 1; have l2 := k5.f 2; have h5 := k5.put2 (.string ⟨pR.1.toArray⟩)))
  refine ⟨rfl, _, by simp [results, Tryd.results34, go_sem, j0, j1, j2], rfl, ?_⟩
  exact (((h5.put0 _).put1 _).put2 _).below

set_option maxHeartbeats 1600000 in
theorem addr_tfL (l A Z A2 Z2 : List UInt8) (pL : List UInt8 × Nat) (w : World) (hT : Lib.Utf8Tabs 0 1 w) (C1 : Cuts l ⟨#[47]⟩ A Z false) (C2 : Cuts A ⟨#[64]⟩ A2 Z2 true) (CL : Parts 24 A2 pL) (kL : pL.2 ≠ 0) :
    Calls Tryd.prog 34 #[.string ⟨l.toArray⟩] w fun e w' => e = .panicked (gaveUp pL.2) ∧ Below w.heap.size w w' := by
  have tok : True := trivial
  go_enter Tryd.func34, Tryd.ntmps34
  go_wp2_with (first
    | (go_at_call 50; clear tok; refine (C1 _).mono ?_; rintro e w1 ⟨rfl, hb1⟩; have h1 := (St.new w).call hb1)
    | (go_at_call 50; refine (C2 _).mono ?_; rintro e w2 ⟨rfl, hb2⟩; have h2 := h1.call hb2; have a0 := h2.c0; have a1 := h2.c1; have a2 := h2.c2; have g0 := h2.f 0; have g1 := h2.f 1; have g2 := h2.f 2)
    | (go_at_call 24; refine (CL.no kL _ (h2.tabs hT)).mono ?_; rintro e w3 ⟨rfl, hb3⟩; have h3 := h2.call hb3))
  exact ⟨rfl, rfl, h3.below⟩

set_option maxHeartbeats 1600000 in
theorem addr_tfH (l A Z A2 Z2 : List UInt8) (pL pH : List UInt8 × Nat) (w : World) (hT : Lib.Utf8Tabs 0 1 w) (C1 : Cuts l ⟨#[47]⟩ A Z false) (C2 : Cuts A ⟨#[64]⟩ A2 Z2 true) (CL : Parts 24 A2 pL) (kL : pL.2 = 0) (CH : Parts 29 Z2 pH) (kH : pH.2 ≠ 0) :
    Calls Tryd.prog 34 #[.string ⟨l.toArray⟩] w fun e w' => e = .panicked (gaveUp pH.2) ∧ Below w.heap.size w w' := by
  have tok : True := trivial
  go_enter Tryd.func34, Tryd.ntmps34
  go_wp2_with (first
    | (go_at_call 50; clear tok; refine (C1 _).mono ?_; rintro e w1 ⟨rfl, hb1⟩; have h1 := (St.new w).call hb1)
    | (go_at_call 50; refine (C2 _).mono ?_; rintro e w2 ⟨rfl, hb2⟩; have h2 := h1.call hb2; have a0 := h2.c0; have a1 := h2.c1; have a2 := h2.c2; have g0 := h2.f 0; have g1 := h2.f 1; have g2 := h2.f 2)
    | (go_at_call 24; refine (CL.ok kL _ (h2.tabs hT)).mono ?_; rintro e w3 ⟨rfl, hb3⟩; have k3 := h2.call hb3; have b0 := k3.c0; have b1 := k3.c1; have b2 := k3.c2; have e0 := k3.f 0; have e1 := k3.f 1; have e2 := k3.f 2; have h3 := k3.put0 (.string ⟨pL.1.toArray⟩))
    | (go_at_call 29; refine (CH.no kH _ (h3.tabs hT)).mono ?_; rintro e w4 ⟨rfl, hb4⟩; have h4 := h3.call hb4))
  exact ⟨rfl, rfl, h4.below⟩

set_option maxHeartbeats 1600000 in
theorem addr_tfo (l A Z A2 Z2 : List UInt8) (pL pH : List UInt8 × Nat) (w : World) (hT : Lib.Utf8Tabs 0 1 w) (C1 : Cuts l ⟨#[47]⟩ A Z false) (C2 : Cuts A ⟨#[64]⟩ A2 Z2 true) (CL : Parts 24 A2 pL) (kL : pL.2 = 0) (CH : Parts 29 Z2 pH) (kH : pH.2 = 0) :
    Calls Tryd.prog 34 #[.string ⟨l.toArray⟩] w fun e w' => e = .returned (.agg #[.string ⟨pL.1.toArray⟩, .string ⟨pH.1.toArray⟩, noS]) ∧ Below w.heap.size w w' := by
  have tok : True := trivial
  go_enter Tryd.func34, Tryd.ntmps34
  go_wp2_with (first
    | (go_at_call 50; clear tok; refine (C1 _).mono ?_; rintro e w1 ⟨rfl, hb1⟩; have h1 := (St.new w).call hb1)
    | (go_at_call 50; refine (C2 _).mono ?_; rintro e w2 ⟨rfl, hb2⟩; have h2 := h1.call hb2; have a0 := h2.c0; have a1 := h2.c1; have a2 := h2.c2; have g0 := h2.f 0; have g1 := h2.f 1; have g2 := h2.f 2)
    | (go_at_call 24; refine (CL.ok kL _ (h2.tabs hT)).mono ?_; rintro e w3 ⟨rfl, hb3⟩; have k3 := h2.call hb3; have b0 := k3.c0; have b1 := k3.c1; have b2 := k3.c2; have e0 := k3.f 0; have e1 := k3.f 1; have e2 := k3.f 2; have h3 := k3.put0 (.string ⟨pL.1.toArray⟩))
    | (go_at_call 29; refine (CH.ok kH _ (h3.tabs hT)).mono ?_; rintro e w4 ⟨rfl, hb4⟩; have k4 := h3.call hb4; have d0 := k4.c0; have d1 := k4.c1; have d2 := k4.c2; have i0 := k4.f 0; have i1 := k4.f 1; have i2 := k4.f 2; have h4 := k4.put1 (.string ⟨pH.1.toArray⟩)))
  refine ⟨rfl, _, by simp [results, Tryd.results34, go_sem, d0, d1, d2], rfl, ?_⟩
  exact (((h4.put0 _).put1 _).put2 _).below

set_option maxHeartbeats 1600000 in
theorem addr_ftH (l A Z A2 Z2 : List UInt8) (pH : List UInt8 × Nat) (w : World) (hT : Lib.Utf8Tabs 0 1 w) (C1 : Cuts l ⟨#[47]⟩ A Z true) (C2 : Cuts A ⟨#[64]⟩ A2 Z2 false) (CH : Parts 29 A pH) (kH : pH.2 ≠ 0) :
    Calls Tryd.prog 34 #[.string ⟨l.toArray⟩] w fun e w' => e = .panicked (gaveUp pH.2) ∧ Below w.heap.size w w' := by
  have tok : True := trivial
  go_enter Tryd.func34, Tryd.ntmps34
  go_wp2_with (first
    | (go_at_call 50; clear tok; refine (C1 _).mono ?_; rintro e w1 ⟨rfl, hb1⟩; have h1 := (St.new w).call hb1)
    | (go_at_call 50; refine (C2 _).mono ?_; rintro e w2 ⟨rfl, hb2⟩; have h2 := h1.call hb2; have a0 := h2.c0; have a1 := h2.c1; have a2 := h2.c2; have g0 := h2.f 0; have g1 := h2.f 1; have g2 := h2.f 2)
    | (go_at_call 29; refine (CH.no kH _ (h2.tabs hT)).mono ?_; rintro e w4 ⟨rfl, hb4⟩; have h4 := h2.call hb4))
  exact ⟨rfl, rfl, h4.below⟩

set_option maxHeartbeats 1600000 in
theorem addr_ftR (l A Z A2 Z2 : List UInt8) (pH pR : List UInt8 × Nat) (w : World) (hT : Lib.Utf8Tabs 0 1 w) (C1 : Cuts l ⟨#[47]⟩ A Z true) (C2 : Cuts A ⟨#[64]⟩ A2 Z2 false) (CH : Parts 29 A pH) (kH : pH.2 = 0) (CR : Parts 31 Z pR) (kR : pR.2 ≠ 0) :
    Calls Tryd.prog 34 #[.string ⟨l.toArray⟩] w fun e w' => e = .panicked (gaveUp pR.2) ∧ Below w.heap.size w w' := by
  have tok : True := trivial
  go_enter Tryd.func34, Tryd.ntmps34
  go_wp2_with (first
    | (go_at_call 50; clear tok; refine (C1 _).mono ?_; rintro e w1 ⟨rfl, hb1⟩; have h1 := (St.new w).call hb1)
    | (go_at_call 50; refine (C2 _).mono ?_; rintro e w2 ⟨rfl, hb2⟩; have h2 := h1.call hb2; have a0 := h2.c0; have a1 := h2.c1; have a2 := h2.c2; have g0 := h2.f 0; have g1 := h2.f 1; have g2 := h2.f 2)
    | (go_at_call 29; refine (CH.ok kH _ (h2.tabs hT)).mono ?_; rintro e w4 ⟨rfl, hb4⟩; have k4 := h2.call hb4; have d0 := k4.c0; have d1 := k4.c1; have d2 := k4.c2; have i0 := k4.f 0; have i1 := k4.f 1; have i2 := k4.f 2; have h4 := k4.put1 (.string ⟨pH.1.toArray⟩))
    | (go_at_call 31; refine (CR.no kR _ (h4.tabs hT)).mono ?_; rintro e w5 ⟨rfl, hb5⟩; have h5 := h4.call hb5))
  exact ⟨rfl, rfl, h5.below⟩

set_option maxHeartbeats 1600000 in
theorem addr_fto (l A Z A2 Z2 : List UInt8) (pH pR : List UInt8 × Nat) (w : World) (hT : Lib.Utf8Tabs 0 1 w) (C1 : Cuts l ⟨#[47]⟩ A Z true) (C2 : Cuts A ⟨#[64]⟩ A2 Z2 false) (CH : Parts 29 A pH) (kH : pH.2 = 0) (CR : Parts 31 Z pR) (kR : pR.2 = 0) :
    Calls Tryd.prog 34 #[.string ⟨l.toArray⟩] w fun e w' => e = .returned (.agg #[noS, .string ⟨pH.1.toArray⟩, .string ⟨pR.1.toArray⟩]) ∧ Below w.heap.size w w' := by
  have tok : True := trivial
  go_enter Tryd.func34, Tryd.ntmps34
  go_wp2_with (first
    | (go_at_call 50; clear tok; refine (C1 _).mono ?_; rintro e w1 ⟨rfl, hb1⟩; have h1 := (St.new w).call hb1)
    | (go_at_call 50; refine (C2 _).mono ?_; rintro e w2 ⟨rfl, hb2⟩; have h2 := h1.call hb2; have a0 := h2.c0; have a1 := h2.c1; have a2 := h2.c2; have g0 := h2.f 0; have g1 := h2.f 1; have g2 := h2.f 2)
    | (go_at_call 29; refine (CH.ok kH _ (h2.tabs hT)).mono ?_; rintro e w4 ⟨rfl, hb4⟩; have k4 := h2.call hb4; have d0 := k4.c0; have d1 := k4.c1; have d2 := k4.c2; have i0 := k4.f 0; have i1 := k4.f 1; have i2 := k4.f 2; have h4 := k4.put1 (.string ⟨pH.1.toArray⟩))
    | (go_at_call 31; refine (CR.ok kR _ (h4.tabs hT)).mono ?_; rintro e w5 ⟨rfl, hb5⟩; have k5 := h4.call hb5; have j0 := k5.c0; have j1 := k5.c1; have j2 := k5.c2; have l0 := k5.f 0; have l1 := k5.f 1; have l2 := k5.f 2; have h5 := k5.put2 (.string ⟨pR.1.toArray⟩)))
  refine ⟨rfl, _, by simp [results, Tryd.results34, go_sem, j0, j1, j2], rfl, ?_⟩
  exact (((h5.put0 _).put1 _).put2 _).below

set_option maxHeartbeats 1600000 in
theorem addr_ffH (l A Z A2 Z2 : List UInt8) (pH : List UInt8 × Nat) (w : World) (hT : Lib.Utf8Tabs 0 1 w) (C1 : Cuts l ⟨#[47]⟩ A Z false) (C2 : Cuts A ⟨#[64]⟩ A2 Z2 false) (CH : Parts 29 A pH) (kH : pH.2 ≠ 0) :
    Calls Tryd.prog 34 #[.string ⟨l.toArray⟩] w fun e w' => e = .panicked (gaveUp pH.2) ∧ Below w.heap.size w w' := by
  have tok : True := trivial
  go_enter Tryd.func34, Tryd.ntmps34
  go_wp2_with (first
    | (go_at_call 50; clear tok; refine (C1 _).mono ?_; rintro e w1 ⟨rfl, hb1⟩; have h1 := (St.new w).call hb1)
    | (go_at_call 50; refine (C2 _).mono ?_; rintro e w2 ⟨rfl, hb2⟩; have h2 := h1.call hb2; have a0 := h2.c0; have a1 := h2.c1; have a2 := h2.c2; have g0 := h2.f 0; have g1 := h2.f 1; have g2 := h2.f 2)
    | (go_at_call 29; refine (CH.no kH _ (h2.tabs hT)).mono ?_; rintro e w4 ⟨rfl, hb4⟩; have h4 := h2.call hb4))
  exact ⟨rfl, rfl, h4.below⟩

set_option maxHeartbeats 1600000 in
theorem addr_ffo (l A Z A2 Z2 : List UInt8) (pH : List UInt8 × Nat) (w : World) (hT : Lib.Utf8Tabs 0 1 w) (C1 : Cuts l ⟨#[47]⟩ A Z false) (C2 : Cuts A ⟨#[64]⟩ A2 Z2 false) (CH : Parts 29 A pH) (kH : pH.2 = 0) :
    Calls Tryd.prog 34 #[.string ⟨l.toArray⟩] w fun e w' => e = .returned (.agg #[noS, .string ⟨pH.1.toArray⟩, noS]) ∧ Below w.heap.size w w' := by
  have tok : True := trivial
  go_enter Tryd.func34, Tryd.ntmps34
  go_wp2_with (first
    | (go_at_call 50; clear tok; refine (C1 _).mono ?_; rintro e w1 ⟨rfl, hb1⟩; have h1 := (St.new w).call hb1)
    | (go_at_call 50; refine (C2 _).mono ?_; rintro e w2 ⟨rfl, hb2⟩; have h2 := h1.call hb2; have a0 := h2.c0; have a1 := h2.c1; have a2 := h2.c2; have g0 := h2.f 0; have g1 := h2.f 1; have g2 := h2.f 2)
    | (go_at_call 29; refine (CH.ok kH _ (h2.tabs hT)).mono ?_; rintro e w4 ⟨rfl, hb4⟩; have k4 := h2.call hb4; have d0 := k4.c0; have d1 := k4.c1; have d2 := k4.c2; have i0 := k4.f 0; have i1 := k4.f 1; have i2 := k4.f 2; have h4 := k4.put1 (.string ⟨pH.1.toArray⟩)))
  refine ⟨rfl, _, by simp [results, Tryd.results34, go_sem, d0, d1, d2], rfl, ?_⟩
  exact (((h4.put0 _).put1 _).put2 _).below
end Go.Proofs.YtikklhnkkfimfaaDoor
