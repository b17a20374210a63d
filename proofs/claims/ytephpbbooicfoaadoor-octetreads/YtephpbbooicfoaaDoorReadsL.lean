/- OctetReads: the walk. -/
import Derived.Test.YtephpbbooicfoaaDoorRefX
import Derived.Test.YtephpbbooicfoaaDoorLaidT
import Derived.Deep.CutRange
namespace Go.Proofs.YtephpbbooicfoaaDoor.octetReads
open Go.RowKit
open Go.Proofs.YtephpbbooicfoaaDoor

/-- What both readers of a number answer: the number, what is behind it, the error. -/
def uN (X : List Int) : Nat := if (scan X 0 0).2.2 = 0 then (scan X 0 0).1 else 0
def iN (X : List Int) : Int := if (scan X 0 0).2.2 = 0 then unfv (scan X 0 0).1 else 0
def uR (X : List Int) : List Int := if (scan X 0 0).2.2 = 0 then X.drop (scan X 0 0).2.1 else []
def fN (X : List Int) : Nat := if fbad X = true then 0 else fv X 8
def fR (X : List Int) : List Int := if fbad X = true then [] else X.drop 8
def fE (X : List Int) : Nat := if fbad X = true then 2 else 0
def tN (X : List Int) (m : Int) : ByteArray := if terr X m = 0 then strOfNums ((X.drop (scan X 0 0).2.1).take (scan X 0 0).1) else ⟨#[]⟩
def tR (X : List Int) (m : Int) : List Int := if terr X m = 0 then (X.drop (scan X 0 0).2.1).drop (scan X 0 0).1 else []

abbrev AnsU (X : List Int) (w : World) (e : Ending) (w' : World) : Prop := ∃ a' n' c', e = .returned (.tuple #[.int .u64 ((uN X : Nat) : Int), .slice a' n' c', .int .i64 (((scan X 0 0).2.2 : Nat) : Int)]) ∧ Rd w' a' n' c' (uR X) ∧ Ext w w'
abbrev AnsI (X : List Int) (w : World) (e : Ending) (w' : World) : Prop := ∃ a' n' c', e = .returned (.tuple #[.int .i64 (iN X), .slice a' n' c', .int .i64 (((scan X 0 0).2.2 : Nat) : Int)]) ∧ Rd w' a' n' c' (uR X) ∧ Ext w w'
abbrev AnsF (X : List Int) (w : World) (e : Ending) (w' : World) : Prop := ∃ a' n' c', e = .returned (.tuple #[.float .f64 (fN X), .slice a' n' c', .int .i64 ((fE X : Nat) : Int)]) ∧ Rd w' a' n' c' (fR X) ∧ Ext w w'
abbrev AnsT (X : List Int) (m : Int) (w : World) (e : Ending) (w' : World) : Prop := ∃ a' n' c', e = .returned (.tuple #[.string (tN X m), .slice a' n' c', .int .i64 ((terr X m : Nat) : Int)]) ∧ Rd w' a' n' c' (tR X m) ∧ Ext w w'

theorem ansU {X : List Int} {w w' : World} {e : Ending} (h : ((scan X 0 0).2.2 ≠ 0 ∧ e = .returned (.tuple #[.int .u64 0, .slice none 0 0, .int .i64 (scan X 0 0).2.2]) ∧ Ext w w') ∨
      ((scan X 0 0).2.2 = 0 ∧ ∃ a' n' c', e = .returned (.tuple #[.int .u64 (scan X 0 0).1, .slice a' n' c', .int .i64 0]) ∧ Rd w' a' n' c' (X.drop (scan X 0 0).2.1) ∧ Ext w w')) : AnsU X w e w' := by
  unfold AnsU uN uR
  rcases h with ⟨h, rfl, hx⟩ | ⟨h, a1, n1, c1, rfl, hr, hx⟩
  · rw [if_neg h, if_neg h]; exact ⟨none, 0, 0, rfl, rd_nil _, hx⟩
  · rw [if_pos h, if_pos h, h]; exact ⟨a1, n1, c1, rfl, hr, hx⟩
theorem ansI {X : List Int} {w w' : World} {e : Ending} (h : ((scan X 0 0).2.2 ≠ 0 ∧ e = .returned (.tuple #[.int .i64 0, .slice none 0 0, .int .i64 (scan X 0 0).2.2]) ∧ Ext w w') ∨
      ((scan X 0 0).2.2 = 0 ∧ ∃ a' n' c', e = .returned (.tuple #[.int .i64 (unfv (scan X 0 0).1), .slice a' n' c', .int .i64 0]) ∧ Rd w' a' n' c' (X.drop (scan X 0 0).2.1) ∧ Ext w w')) : AnsI X w e w' := by
  unfold AnsI iN uR
  rcases h with ⟨h, rfl, hx⟩ | ⟨h, a1, n1, c1, rfl, hr, hx⟩
  · rw [if_neg h, if_neg h]; exact ⟨none, 0, 0, rfl, rd_nil _, hx⟩
  · rw [if_pos h, if_pos h, h]; exact ⟨a1, n1, c1, rfl, hr, hx⟩
theorem ansF {X : List Int} {w w' : World} {e : Ending} (h : (fbad X = true ∧ e = .returned (.tuple #[.float .f64 0, .slice none 0 0, .int .i64 2]) ∧ Ext w w') ∨
      (fbad X = false ∧ ∃ a' n' c', e = .returned (.tuple #[.float .f64 (fv X 8), .slice a' n' c', .int .i64 0]) ∧ Rd w' a' n' c' (X.drop 8) ∧ Ext w w')) : AnsF X w e w' := by
  unfold AnsF fN fR fE
  rcases h with ⟨h, rfl, hx⟩ | ⟨h, a1, n1, c1, rfl, hr, hx⟩
  · rw [if_pos h, if_pos h, if_pos h]; exact ⟨none, 0, 0, rfl, rd_nil _, hx⟩
  · have h' : ¬ fbad X = true := by simp [h]
    rw [if_neg h', if_neg h', if_neg h']; exact ⟨a1, n1, c1, rfl, hr, hx⟩
theorem ansT {X : List Int} {m : Int} {w w' : World} {e : Ending} (h : (terr X m ≠ 0 ∧ e = .returned (.tuple #[.string ⟨#[]⟩, .slice none 0 0, .int .i64 (terr X m)]) ∧ Ext w w') ∨
      (terr X m = 0 ∧ ∃ a' n' c', e = .returned (.tuple #[.string (strOfNums ((X.drop (scan X 0 0).2.1).take (scan X 0 0).1)), .slice a' n' c', .int .i64 0]) ∧ Rd w' a' n' c' ((X.drop (scan X 0 0).2.1).drop (scan X 0 0).1) ∧ Ext w w')) : AnsT X m w e w' := by
  unfold AnsT tN tR
  rcases h with ⟨h, rfl, hx⟩ | ⟨h, a1, n1, c1, rfl, hr, hx⟩
  · rw [if_neg h, if_neg h]; exact ⟨none, 0, 0, rfl, rd_nil _, hx⟩
  · rw [if_pos h, if_pos h, h]; exact ⟨a1, n1, c1, rfl, hr, hx⟩

theorem uintD (X : List Int) (a : Option Addr) (n c : Nat) (w : World) (h : Rd w a n c X) (hn : n ≤ 1000000) : Calls Tryd.prog 7 #[.slice a n c] w (AnsU X w) := by
  refine (uint_any a n c X w h hn).mono ?_
  rintro e w' (⟨h1, rfl, rfl⟩ | ⟨h1, v, rfl, ho, hb⟩)
  · exact ansU (.inl ⟨h1, rfl, Ext.refl _⟩)
  · obtain ⟨a1, n1, c1, rfl, hr⟩ := ownR (h.bytes.drop _) ho
    exact ansU (.inr ⟨h1, a1, n1, c1, rfl, hr, hb⟩)
theorem refUintD (X : List Int) (a : Option Addr) (n c : Nat) (w : World) (h : Rd w a n c X) (hn : n ≤ 1000000) : Calls Tryd.prog 8 #[.slice a n c] w (AnsU X w) :=
  (refUintR a n c X w h hn).mono fun _ _ g => ansU g
theorem intD (X : List Int) (a : Option Addr) (n c : Nat) (w : World) (h : Rd w a n c X) (hn : n ≤ 1000000) : Calls Tryd.prog 9 #[.slice a n c] w (AnsI X w) := by
  refine (int_any a n c X w h hn).mono ?_
  rintro e w' (⟨h1, rfl, hx⟩ | ⟨h1, v, rfl, ho, hb⟩)
  · exact ansI (.inl ⟨h1, rfl, hx⟩)
  · obtain ⟨a1, n1, c1, rfl, hr⟩ := ownR (h.bytes.drop _) ho
    exact ansI (.inr ⟨h1, a1, n1, c1, rfl, hr, hb⟩)
theorem refIntD (X : List Int) (a : Option Addr) (n c : Nat) (w : World) (h : Rd w a n c X) (hn : n ≤ 1000000) : Calls Tryd.prog 10 #[.slice a n c] w (AnsI X w) :=
  (refIntR a n c X w h hn).mono fun _ _ g => ansI g
theorem floatD (X : List Int) (a : Option Addr) (n c : Nat) (w : World) (h : Rd w a n c X) (hn : n ≤ 1000000) : Calls Tryd.prog 11 #[.slice a n c] w (AnsF X w) := by
  refine (float_any a n c X w h hn).mono ?_
  rintro e w' (⟨h1, rfl, hx⟩ | ⟨h1, v, rfl, ho, hb⟩)
  · exact ansF (.inl ⟨h1, rfl, hx⟩)
  · obtain ⟨a1, n1, c1, rfl, hr⟩ := ownR (h.bytes.drop _) ho
    exact ansF (.inr ⟨h1, a1, n1, c1, rfl, hr, hb⟩)
theorem refFloatD (X : List Int) (a : Option Addr) (n c : Nat) (w : World) (h : Rd w a n c X) (hn : n ≤ 1000000) : Calls Tryd.prog 12 #[.slice a n c] w (AnsF X w) :=
  (refFloatR a n c X w h hn).mono fun _ _ g => ansF g
theorem textD (X : List Int) (m : Int) (a : Option Addr) (n c : Nat) (w : World) (h : Rd w a n c X) (hT : Tabs w) (hn : n ≤ 1000000) (hm0 : -9223372036854775808 ≤ m) (hm1 : m ≤ 9223372036854775807) : Calls Tryd.prog 14 #[.slice a n c, .int .i64 m] w (AnsT X m w) := by
  refine (text_read a n c X m w h hT hn hm0 hm1).mono ?_
  rintro e w' (⟨h1, rfl, hx⟩ | ⟨h1, v, rfl, ho, hb⟩)
  · exact ansT (.inl ⟨h1, rfl, hx⟩)
  · obtain ⟨a1, n1, c1, rfl, hr⟩ := ownR ((h.bytes.drop _).drop _) ho
    exact ansT (.inr ⟨h1, a1, n1, c1, rfl, hr, hb⟩)
theorem refTextD (X : List Int) (m : Int) (a : Option Addr) (n c : Nat) (w : World) (h : Rd w a n c X) (hn : n ≤ 1000000) (hm0 : -9223372036854775808 ≤ m) (hm1 : m ≤ 9223372036854775807) : Calls Tryd.prog 15 #[.slice a n c, .int .i64 m] w (AnsT X m w) :=
  (refTextR a n c X m w h hn hm0 hm1).mono fun _ _ g => ansT g

set_option maxHeartbeats 12800000 in
set_option maxRecDepth 100000 in
theorem walkN (a : Option Addr) (n c : Nat) (xs : List Int) (m : Int) (w : World) (hR : Rd w a n c xs) (hT : Tabs w) (hm0 : -9223372036854775808 ≤ m) (hm1 : m ≤ 9223372036854775807) :
    Calls Tryd.prog 3 #[.slice a n c, .int .i64 m] w fun e w' => e = .returned (.bool true) ∧ Below w.heap.size w w' := by
  have hxw : Ext w w := Ext.refl w
  go_enter Tryd.func3, Tryd.ntmps3
  go_upto_region 4 with (first
    | (go_at_call 6; refine (fewR a n c xs _ hR).mono ?_; rintro e w1 ⟨a1, n1, c1, rfl, hn1, hr1, hx1⟩; obtain ⟨X, hXe⟩ : ∃ X, xs.take 2000 = X := ⟨_, rfl⟩; rw [hXe] at hr1; have hX : X.length ≤ 2000 := (by rw [← hXe, List.length_take]; omega); clear hXe hR; replace hT := hT.carry hx1; replace hxw := hxw.trans hx1; clear hx1)
    | (go_at_call 6; refine (fewS a1 n1 c1 X _ hr1 hX).mono ?_; rintro e wfA ⟨af, nf, cf, rfl, hnf, hrf, hxf⟩; replace hr1 := hr1.carry (Nat.le_refl _) hxf; replace hT := hT.carry hxf; replace hxw := hxw.trans hxf; clear hxf)
    | (go_at_call 7; refine (uintD X af nf cf _ hrf (by omega)).mono ?_; rintro e wuA ⟨aU, nU, cU, rfl, hrU, hxf⟩; replace hr1 := hr1.carry (Nat.le_refl _) hxf; replace hT := hT.carry hxf; replace hxw := hxw.trans hxf; clear hxf hrf hnf)
    | (go_at_call 8; refine (refUintD X a1 n1 c1 _ hr1 (by omega)).mono ?_; rintro e wvA ⟨aV, nV, cV, rfl, hrV, hxf⟩; replace hr1 := hr1.carry (Nat.le_refl _) hxf; replace hT := hT.carry hxf; replace hxw := hxw.trans hxf; replace hrU := hrU.carry (Nat.le_refl _) hxf; clear hxf; have q1 := hrU.string; have q2 := hrV.string; clear hrU hrV))
  go_upto_region 8 with (first
    | (go_at_call 6; clear q1 q2; refine (fewS a1 n1 c1 X _ hr1 hX).mono ?_; rintro e wfB ⟨af, nf, cf, rfl, hnf, hrf, hxf⟩; replace hr1 := hr1.carry (Nat.le_refl _) hxf; replace hT := hT.carry hxf; replace hxw := hxw.trans hxf; clear hxf)
    | (go_at_call 9; refine (intD X af nf cf _ hrf (by omega)).mono ?_; rintro e wuB ⟨aU, nU, cU, rfl, hrU, hxf⟩; replace hr1 := hr1.carry (Nat.le_refl _) hxf; replace hT := hT.carry hxf; replace hxw := hxw.trans hxf; clear hxf hrf hnf)
    | (go_at_call 10; refine (refIntD X a1 n1 c1 _ hr1 (by omega)).mono ?_; rintro e wvB ⟨aV, nV, cV, rfl, hrV, hxf⟩; replace hr1 := hr1.carry (Nat.le_refl _) hxf; replace hT := hT.carry hxf; replace hxw := hxw.trans hxf; replace hrU := hrU.carry (Nat.le_refl _) hxf; clear hxf; have q1 := hrU.string; have q2 := hrV.string; clear hrU hrV))
  go_upto_region 12 with (first
    | (go_at_call 6; clear q1 q2; refine (fewS a1 n1 c1 X _ hr1 hX).mono ?_; rintro e wfC ⟨af, nf, cf, rfl, hnf, hrf, hxf⟩; replace hr1 := hr1.carry (Nat.le_refl _) hxf; replace hT := hT.carry hxf; replace hxw := hxw.trans hxf; clear hxf)
    | (go_at_call 11; refine (floatD X af nf cf _ hrf (by omega)).mono ?_; rintro e wuC ⟨aU, nU, cU, rfl, hrU, hxf⟩; replace hr1 := hr1.carry (Nat.le_refl _) hxf; replace hT := hT.carry hxf; replace hxw := hxw.trans hxf; clear hxf hrf hnf)
    | (go_at_call 12; refine (refFloatD X a1 n1 c1 _ hr1 (by omega)).mono ?_; rintro e wvC ⟨aV, nV, cV, rfl, hrV, hxf⟩; replace hr1 := hr1.carry (Nat.le_refl _) hxf; replace hT := hT.carry hxf; replace hxw := hxw.trans hxf; replace hrU := hrU.carry (Nat.le_refl _) hxf; clear hxf; have q1 := hrU.string; have q2 := hrV.string; clear hrU hrV))
  go_wp2_with (first
    | (go_at_call 13; refine (refSame _ _).mono ?_; rintro e ws ⟨rfl, rfl⟩)
    | (go_at_call 6; clear q1 q2; refine (fewS a1 n1 c1 X _ hr1 hX).mono ?_; rintro e wfD ⟨af, nf, cf, rfl, hnf, hrf, hxf⟩; replace hr1 := hr1.carry (Nat.le_refl _) hxf; replace hT := hT.carry hxf; replace hxw := hxw.trans hxf; clear hxf)
    | (go_at_call 14; refine (textD X m af nf cf _ hrf hT (by omega) hm0 hm1).mono ?_; rintro e wuD ⟨aU, nU, cU, rfl, hrU, hxf⟩; replace hr1 := hr1.carry (Nat.le_refl _) hxf; replace hxw := hxw.trans hxf; clear hxf hrf hnf)
    | (go_at_call 15; refine (refTextD X m a1 n1 c1 _ hr1 (by omega) hm0 hm1).mono ?_; rintro e wvD ⟨aV, nV, cV, rfl, hrV, hxf⟩; replace hr1 := hr1.carry (Nat.le_refl _) hxf; replace hxw := hxw.trans hxf; replace hrU := hrU.carry (Nat.le_refl _) hxf; clear hxf; have q1 := hrU.string; have q2 := hrV.string; clear hrU hrV)
    | (go_at_call 16; refine (wakes_any _).mono ?_; rintro e wq ⟨rfl, hxq⟩))
  go_ret
  exact ⟨rfl, hxw.trans hxq⟩

end Go.Proofs.YtephpbbooicfoaaDoor.octetReads
