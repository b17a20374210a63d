/- addressText: the text of an address, or how it gives up. -/
import Derived.Test.YtikklhnkkfimfaaDoorNmParse
namespace Go.Proofs.YtikklhnkkfimfaaDoor
open Go.RowKit

theorem St.box (w : World) (a b c : Value) : St w (w.alloc (.cells #[a, b, c] 31)) a b c :=
  ⟨(Below.refl _ _).alloc (Nat.le_refl _) _, by show (w.heap.push (.cells #[a, b, c] 31))[w.heap.size]? = _; simp⟩
theorem ret_str {a b : ByteArray} (h : a.data = b.data) : Ending.returned (.string a) = .returned (.string b) := by
  cases a; cases b; cases h; rfl

set_option maxHeartbeats 1600000 in
theorem txt_hx (l h r : List UInt8) (pH : List UInt8 × Nat) (w : World) (hT : Lib.Utf8Tabs 0 1 w) (CH : Parts 29 h pH) (kH : pH.2 ≠ 0)  :
    Calls Tryd.prog 37 #[.agg #[.string ⟨l.toArray⟩, .string ⟨h.toArray⟩, .string ⟨r.toArray⟩]] w fun e w' => e = .panicked (gaveUp pH.2) ∧ Below w.heap.size w w' := by
  have h0 : St w (w.alloc (.cells #[.string ⟨l.toArray⟩, .string ⟨h.toArray⟩, .string ⟨r.toArray⟩] 31)) (.string ⟨l.toArray⟩) (.string ⟨h.toArray⟩) (.string ⟨r.toArray⟩) := St.box w _ _ _
  go_enter Tryd.func37, Tryd.ntmps37
  go_wp2_with (first
    | (go_at_call 29; refine (CH.no kH _ (h0.tabs hT)).mono ?_; rintro e w1 ⟨rfl, hb1⟩; have h1 := h0.call hb1; have a0 := h1.c0; have a1 := h1.c1; have a2 := h1.c2))
  exact ⟨rfl, rfl, h1.below⟩

set_option maxHeartbeats 1600000 in
theorem txt_ex (l h r : List UInt8) (pH pL : List UInt8 × Nat) (w : World) (hT : Lib.Utf8Tabs 0 1 w) (CH : Parts 29 h pH) (kH : pH.2 = 0) (CL : Parts 24 l pL) (kL : pL.2 ≠ 0) (nL : l.isEmpty = false)  :
    Calls Tryd.prog 37 #[.agg #[.string ⟨l.toArray⟩, .string ⟨h.toArray⟩, .string ⟨r.toArray⟩]] w fun e w' => e = .panicked (gaveUp pL.2) ∧ Below w.heap.size w w' := by
  have h0 : St w (w.alloc (.cells #[.string ⟨l.toArray⟩, .string ⟨h.toArray⟩, .string ⟨r.toArray⟩] 31)) (.string ⟨l.toArray⟩) (.string ⟨h.toArray⟩) (.string ⟨r.toArray⟩) := St.box w _ _ _
  go_enter Tryd.func37, Tryd.ntmps37
  go_wp2_with (first
    | (go_at_call 29; refine (CH.ok kH _ (h0.tabs hT)).mono ?_; rintro e w1 ⟨rfl, hb1⟩; have h1 := h0.call hb1; have a0 := h1.c0; have a1 := h1.c1; have a2 := h1.c2)
    | (go_at_call 24; refine (CL.no kL _ (h1.tabs hT)).mono ?_; rintro e w2 ⟨rfl, hb2⟩; have h2 := h1.call hb2; have b0 := h2.c0; have b1 := h2.c1; have b2 := h2.c2))
  exact ⟨rfl, rfl, h2.below⟩

set_option maxHeartbeats 1600000 in
theorem txt_nn (l h r : List UInt8) (pH : List UInt8 × Nat) (w : World) (hT : Lib.Utf8Tabs 0 1 w) (CH : Parts 29 h pH) (kH : pH.2 = 0) (nL : l.isEmpty = true) (nR : r.isEmpty = true)  :
    Calls Tryd.prog 37 #[.agg #[.string ⟨l.toArray⟩, .string ⟨h.toArray⟩, .string ⟨r.toArray⟩]] w fun e w' => e = .returned (.string ⟨(pH.1).toArray⟩) ∧ Below w.heap.size w w' := by
  have h0 : St w (w.alloc (.cells #[.string ⟨l.toArray⟩, .string ⟨h.toArray⟩, .string ⟨r.toArray⟩] 31)) (.string ⟨l.toArray⟩) (.string ⟨h.toArray⟩) (.string ⟨r.toArray⟩) := St.box w _ _ _
  go_enter Tryd.func37, Tryd.ntmps37
  go_wp2_with (first
    | (go_at_call 29; refine (CH.ok kH _ (h0.tabs hT)).mono ?_; rintro e w1 ⟨rfl, hb1⟩; have h1 := h0.call hb1; have a0 := h1.c0; have a1 := h1.c1; have a2 := h1.c2))
  go_ret
  exact ⟨ret_str (by simp), h1.below⟩

set_option maxHeartbeats 1600000 in
theorem txt_ne (l h r : List UInt8) (pH pR : List UInt8 × Nat) (w : World) (hT : Lib.Utf8Tabs 0 1 w) (CH : Parts 29 h pH) (kH : pH.2 = 0) (nL : l.isEmpty = true) (CR : Parts 31 r pR) (kR : pR.2 ≠ 0) (nR : r.isEmpty = false)  :
    Calls Tryd.prog 37 #[.agg #[.string ⟨l.toArray⟩, .string ⟨h.toArray⟩, .string ⟨r.toArray⟩]] w fun e w' => e = .panicked (gaveUp pR.2) ∧ Below w.heap.size w w' := by
  have h0 : St w (w.alloc (.cells #[.string ⟨l.toArray⟩, .string ⟨h.toArray⟩, .string ⟨r.toArray⟩] 31)) (.string ⟨l.toArray⟩) (.string ⟨h.toArray⟩) (.string ⟨r.toArray⟩) := St.box w _ _ _
  go_enter Tryd.func37, Tryd.ntmps37
  go_wp2_with (first
    | (go_at_call 29; refine (CH.ok kH _ (h0.tabs hT)).mono ?_; rintro e w1 ⟨rfl, hb1⟩; have h1 := h0.call hb1; have a0 := h1.c0; have a1 := h1.c1; have a2 := h1.c2)
    | (go_at_call 31; refine (CR.no kR _ (h1.tabs hT)).mono ?_; rintro e w3 ⟨rfl, hb3⟩; have h3 := h1.call hb3))
  exact ⟨rfl, rfl, h3.below⟩

set_option maxHeartbeats 1600000 in
theorem txt_no (l h r : List UInt8) (pH pR : List UInt8 × Nat) (w : World) (hT : Lib.Utf8Tabs 0 1 w) (CH : Parts 29 h pH) (kH : pH.2 = 0) (nL : l.isEmpty = true) (CR : Parts 31 r pR) (kR : pR.2 = 0) (nR : r.isEmpty = false) (zH : pH.1.length ≤ 256) (zR : pR.1.length ≤ 256) :
    Calls Tryd.prog 37 #[.agg #[.string ⟨l.toArray⟩, .string ⟨h.toArray⟩, .string ⟨r.toArray⟩]] w fun e w' => e = .returned (.string ⟨(pH.1 ++ (47 :: pR.1)).toArray⟩) ∧ Below w.heap.size w w' := by
  have h0 : St w (w.alloc (.cells #[.string ⟨l.toArray⟩, .string ⟨h.toArray⟩, .string ⟨r.toArray⟩] 31)) (.string ⟨l.toArray⟩) (.string ⟨h.toArray⟩) (.string ⟨r.toArray⟩) := St.box w _ _ _
  go_enter Tryd.func37, Tryd.ntmps37
  go_wp2_with (first
    | (go_at_call 29; refine (CH.ok kH _ (h0.tabs hT)).mono ?_; rintro e w1 ⟨rfl, hb1⟩; have h1 := h0.call hb1; have a0 := h1.c0; have a1 := h1.c1; have a2 := h1.c2)
    | (go_at_call 31; refine (CR.ok kR _ (h1.tabs hT)).mono ?_; rintro e w3 ⟨rfl, hb3⟩; have h3 := h1.call hb3))
  go_ret
  exact ⟨ret_str (by simp), h3.below⟩

set_option maxHeartbeats 1600000 in
theorem txt_on (l h r : List UInt8) (pH pL : List UInt8 × Nat) (w : World) (hT : Lib.Utf8Tabs 0 1 w) (CH : Parts 29 h pH) (kH : pH.2 = 0) (CL : Parts 24 l pL) (kL : pL.2 = 0) (nL : l.isEmpty = false) (nR : r.isEmpty = true) (zH : pH.1.length ≤ 256) (zL : pL.1.length ≤ 256) :
    Calls Tryd.prog 37 #[.agg #[.string ⟨l.toArray⟩, .string ⟨h.toArray⟩, .string ⟨r.toArray⟩]] w fun e w' => e = .returned (.string ⟨(pL.1 ++ [64] ++ pH.1).toArray⟩) ∧ Below w.heap.size w w' := by
  have h0 : St w (w.alloc (.cells #[.string ⟨l.toArray⟩, .string ⟨h.toArray⟩, .string ⟨r.toArray⟩] 31)) (.string ⟨l.toArray⟩) (.string ⟨h.toArray⟩) (.string ⟨r.toArray⟩) := St.box w _ _ _
  go_enter Tryd.func37, Tryd.ntmps37
  go_wp2_with (first
    | (go_at_call 29; refine (CH.ok kH _ (h0.tabs hT)).mono ?_; rintro e w1 ⟨rfl, hb1⟩; have h1 := h0.call hb1; have a0 := h1.c0; have a1 := h1.c1; have a2 := h1.c2)
    | (go_at_call 24; refine (CL.ok kL _ (h1.tabs hT)).mono ?_; rintro e w2 ⟨rfl, hb2⟩; have h2 := h1.call hb2; have b0 := h2.c0; have b1 := h2.c1; have b2 := h2.c2))
  go_ret
  exact ⟨ret_str (by simp), h2.below⟩

set_option maxHeartbeats 1600000 in
theorem txt_oe (l h r : List UInt8) (pH pL pR : List UInt8 × Nat) (w : World) (hT : Lib.Utf8Tabs 0 1 w) (CH : Parts 29 h pH) (kH : pH.2 = 0) (CL : Parts 24 l pL) (kL : pL.2 = 0) (nL : l.isEmpty = false) (CR : Parts 31 r pR) (kR : pR.2 ≠ 0) (nR : r.isEmpty = false) (zH : pH.1.length ≤ 256) (zL : pL.1.length ≤ 256) :
    Calls Tryd.prog 37 #[.agg #[.string ⟨l.toArray⟩, .string ⟨h.toArray⟩, .string ⟨r.toArray⟩]] w fun e w' => e = .panicked (gaveUp pR.2) ∧ Below w.heap.size w w' := by
  have h0 : St w (w.alloc (.cells #[.string ⟨l.toArray⟩, .string ⟨h.toArray⟩, .string ⟨r.toArray⟩] 31)) (.string ⟨l.toArray⟩) (.string ⟨h.toArray⟩) (.string ⟨r.toArray⟩) := St.box w _ _ _
  go_enter Tryd.func37, Tryd.ntmps37
  go_wp2_with (first
    | (go_at_call 29; refine (CH.ok kH _ (h0.tabs hT)).mono ?_; rintro e w1 ⟨rfl, hb1⟩; have h1 := h0.call hb1; have a0 := h1.c0; have a1 := h1.c1; have a2 := h1.c2)
    | (go_at_call 24; refine (CL.ok kL _ (h1.tabs hT)).mono ?_; rintro e w2 ⟨rfl, hb2⟩; have h2 := h1.call hb2; have b0 := h2.c0; have b1 := h2.c1; have b2 := h2.c2)
    | (go_at_call 31; refine (CR.no kR _ (h2.tabs hT)).mono ?_; rintro e w3 ⟨rfl, hb3⟩; have h3 := h2.call hb3))
  exact ⟨rfl, rfl, h3.below⟩

set_option maxHeartbeats 1600000 in
theorem txt_oo (l h r : List UInt8) (pH pL pR : List UInt8 × Nat) (w : World) (hT : Lib.Utf8Tabs 0 1 w) (CH : Parts 29 h pH) (kH : pH.2 = 0) (CL : Parts 24 l pL) (kL : pL.2 = 0) (nL : l.isEmpty = false) (CR : Parts 31 r pR) (kR : pR.2 = 0) (nR : r.isEmpty = false) (zH : pH.1.length ≤ 256) (zL : pL.1.length ≤ 256) (zR : pR.1.length ≤ 256) :
    Calls Tryd.prog 37 #[.agg #[.string ⟨l.toArray⟩, .string ⟨h.toArray⟩, .string ⟨r.toArray⟩]] w fun e w' => e = .returned (.string ⟨(pL.1 ++ [64] ++ pH.1 ++ (47 :: pR.1)).toArray⟩) ∧ Below w.heap.size w w' := by
  have h0 : St w (w.alloc (.cells #[.string ⟨l.toArray⟩, .string ⟨h.toArray⟩, .string ⟨r.toArray⟩] 31)) (.string ⟨l.toArray⟩) (.string ⟨h.toArray⟩) (.string ⟨r.toArray⟩) := St.box w _ _ _
  go_enter Tryd.func37, Tryd.ntmps37
  go_wp2_with (first
    | (go_at_call 29; refine (CH.ok kH _ (h0.tabs hT)).mono ?_; rintro e w1 ⟨rfl, hb1⟩; have h1 := h0.call hb1; have a0 := h1.c0; have a1 := h1.c1; have a2 := h1.c2)
    | (go_at_call 24; refine (CL.ok kL _ (h1.tabs hT)).mono ?_; rintro e w2 ⟨rfl, hb2⟩; have h2 := h1.call hb2; have b0 := h2.c0; have b1 := h2.c1; have b2 := h2.c2)
    | (go_at_call 31; refine (CR.ok kR _ (h2.tabs hT)).mono ?_; rintro e w3 ⟨rfl, hb3⟩; have h3 := h2.call hb3))
  go_ret
  exact ⟨ret_str (by simp), h3.below⟩
end Go.Proofs.YtikklhnkkfimfaaDoor
