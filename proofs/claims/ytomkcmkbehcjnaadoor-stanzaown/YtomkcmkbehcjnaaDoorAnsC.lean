/- What the readers of octet answer, the error's way and the good way in one. -/
import Derived.Test.YtomkcmkbehcjnaaDoorBackC
namespace Go.Proofs.YtomkcmkbehcjnaaDoor
open Go.RowKit

/-- What both readers of a number answer: the number, what is behind it, the error. -/
def uN (X : List Int) : Nat := if (scan X 0 0).2.2 = 0 then (scan X 0 0).1 else 0
def iN (X : List Int) : Int := if (scan X 0 0).2.2 = 0 then unfv (scan X 0 0).1 else 0
def uR (X : List Int) : List Int := if (scan X 0 0).2.2 = 0 then X.drop (scan X 0 0).2.1 else []
def fN (X : List Int) : Nat := if fbad X = true then 0 else fv X 8
def fR (X : List Int) : List Int := if fbad X = true then [] else X.drop 8
def fE (X : List Int) : Nat := if fbad X = true then 2 else 0
def tN (X : List Int) (m : Int) : ByteArray := if terr X m = 0 then strOfNums ((X.drop (scan X 0 0).2.1).take (scan X 0 0).1) else ⟨#[]⟩
def tR (X : List Int) (m : Int) : List Int := if terr X m = 0 then (X.drop (scan X 0 0).2.1).drop (scan X 0 0).1 else []

abbrev AnsU (X : List Int) (w : World) (e : Ending) (w' : World) : Prop := ∃ a' n' c', e = .returned (.tuple #[.int .u64 ((uN X : Nat) : Int), .slice a' n' c', .int .i64 (((scan X 0 0).2.2 : Nat) : Int)]) ∧ Rd w' a' n' c' (uR X) ∧ Ext w w'
abbrev AnsI (X : List Int) (w : World) (e : Ending) (w' : World) : Prop := ∃ a' n' c', e = .returned (.tuple #[.int .i64 (iN X), .slice a' n' c', .int .i64 (((scan X 0 0).2.2 : Nat) : Int)]) ∧ Rd w' a' n' c' (uR X) ∧ Ext w w'
abbrev AnsF (X : List Int) (w : World) (e : Ending) (w' : World) : Prop := ∃ a' n' c', e = .returned (.tuple #[.float .f64 (fN X), .slice a' n' c', .int .i64 ((fE X : Nat) : Int)]) ∧ Rd w' a' n' c' (fR X) ∧ Ext w w'
abbrev AnsT (X : List Int) (m : Int) (w : World) (e : Ending) (w' : World) : Prop := ∃ a' n' c', e = .returned (.tuple #[.string (tN X m), .slice a' n' c', .int .i64 ((terr X m : Nat) : Int)]) ∧ Rd w' a' n' c' (tR X m) ∧ Ext w w'

theorem ansU {X : List Int} {w w' : World} {e : Ending} (h : ((scan X 0 0).2.2 ≠ 0 ∧ e = .returned (.tuple #[.int .u64 0, .slice none 0 0, .int .i64 (scan X 0 0).2.2]) ∧ Ext w w') ∨
      ((scan X 0 0).2.2 = 0 ∧ ∃ a' n' c', e = .returned (.tuple #[.int .u64 (scan X 0 0).1, .slice a' n' c', .int .i64 0]) ∧ Rd w' a' n' c' (X.drop (scan X 0 0).2.1) ∧ Ext w w')) : AnsU X w e w' := by
  unfold AnsU uN uR
  rcases h with ⟨h, rfl, hx⟩ | ⟨h, a1, n1, c1, rfl, hr, hx⟩
  · rw [if_neg h, if_neg h]; exact ⟨none, 0, 0, rfl, rd_nil _, hx⟩
  · rw [if_pos h, if_pos h, h]; exact ⟨a1, n1, c1, rfl, hr, hx⟩
theorem ansI {X : List Int} {w w' : World} {e : Ending} (h : ((scan X 0 0).2.2 ≠ 0 ∧ e = .returned (.tuple #[.int .i64 0, .slice none 0 0, .int .i64 (scan X 0 0).2.2]) ∧ Ext w w') ∨
      ((scan X 0 0).2.2 = 0 ∧ ∃ a' n' c', e = .returned (.tuple #[.int .i64 (unfv (scan X 0 0).1), .slice a' n' c', .int .i64 0]) ∧ Rd w' a' n' c' (X.drop (scan X 0 0).2.1) ∧ Ext w w')) : AnsI X w e w' := by
  unfold AnsI iN uR
  rcases h with ⟨h, rfl, hx⟩ | ⟨h, a1, n1, c1, rfl, hr, hx⟩
  · rw [if_neg h, if_neg h]; exact ⟨none, 0, 0, rfl, rd_nil _, hx⟩
  · rw [if_pos h, if_pos h, h]; exact ⟨a1, n1, c1, rfl, hr, hx⟩
theorem ansF {X : List Int} {w w' : World} {e : Ending} (h : (fbad X = true ∧ e = .returned (.tuple #[.float .f64 0, .slice none 0 0, .int .i64 2]) ∧ Ext w w') ∨
      (fbad X = false ∧ ∃ a' n' c', e = .returned (.tuple #[.float .f64 (fv X 8), .slice a' n' c', .int .i64 0]) ∧ Rd w' a' n' c' (X.drop 8) ∧ Ext w w')) : AnsF X w e w' := by
  unfold AnsF fN fR fE
  rcases h with ⟨h, rfl, hx⟩ | ⟨h, a1, n1, c1, rfl, hr, hx⟩
  · rw [if_pos h, if_pos h, if_pos h]; exact ⟨none, 0, 0, rfl, rd_nil _, hx⟩
  · have h' : ¬ fbad X = true := by simp [h]
    rw [if_neg h', if_neg h', if_neg h']; exact ⟨a1, n1, c1, rfl, hr, hx⟩
theorem ansT {X : List Int} {m : Int} {w w' : World} {e : Ending} (h : (terr X m ≠ 0 ∧ e = .returned (.tuple #[.string ⟨#[]⟩, .slice none 0 0, .int .i64 (terr X m)]) ∧ Ext w w') ∨
      (terr X m = 0 ∧ ∃ a' n' c', e = .returned (.tuple #[.string (strOfNums ((X.drop (scan X 0 0).2.1).take (scan X 0 0).1)), .slice a' n' c', .int .i64 0]) ∧ Rd w' a' n' c' ((X.drop (scan X 0 0).2.1).drop (scan X 0 0).1) ∧ Ext w w')) : AnsT X m w e w' := by
  unfold AnsT tN tR
  rcases h with ⟨h, rfl, hx⟩ | ⟨h, a1, n1, c1, rfl, hr, hx⟩
  · rw [if_neg h, if_neg h]; exact ⟨none, 0, 0, rfl, rd_nil _, hx⟩
  · rw [if_pos h, if_pos h, h]; exact ⟨a1, n1, c1, rfl, hr, hx⟩

theorem uintD (X : List Int) (a : Option Addr) (n c : Nat) (w : World) (h : Rd w a n c X) (hn : n ≤ 1000000) : Calls Tryd.prog 61 #[.slice a n c] w (AnsU X w) := by
  refine (uint_any a n c X w h hn).mono ?_
  rintro e w' (⟨h1, rfl, rfl⟩ | ⟨h1, v, rfl, ho, hb⟩)
  · exact ansU (.inl ⟨h1, rfl, Ext.refl _⟩)
  · obtain ⟨a1, n1, c1, rfl, hr⟩ := ownR (h.bytes.drop _) ho
    exact ansU (.inr ⟨h1, a1, n1, c1, rfl, hr, hb⟩)
theorem intD (X : List Int) (a : Option Addr) (n c : Nat) (w : World) (h : Rd w a n c X) (hn : n ≤ 1000000) : Calls Tryd.prog 74 #[.slice a n c] w (AnsI X w) := by
  refine (int_any a n c X w h hn).mono ?_
  rintro e w' (⟨h1, rfl, hx⟩ | ⟨h1, v, rfl, ho, hb⟩)
  · exact ansI (.inl ⟨h1, rfl, hx⟩)
  · obtain ⟨a1, n1, c1, rfl, hr⟩ := ownR (h.bytes.drop _) ho
    exact ansI (.inr ⟨h1, a1, n1, c1, rfl, hr, hb⟩)
theorem floatD (X : List Int) (a : Option Addr) (n c : Nat) (w : World) (h : Rd w a n c X) (hn : n ≤ 1000000) : Calls Tryd.prog 76 #[.slice a n c] w (AnsF X w) := by
  refine (float_any a n c X w h hn).mono ?_
  rintro e w' (⟨h1, rfl, hx⟩ | ⟨h1, v, rfl, ho, hb⟩)
  · exact ansF (.inl ⟨h1, rfl, hx⟩)
  · obtain ⟨a1, n1, c1, rfl, hr⟩ := ownR (h.bytes.drop _) ho
    exact ansF (.inr ⟨h1, a1, n1, c1, rfl, hr, hb⟩)
theorem textD (X : List Int) (m : Int) (a : Option Addr) (n c : Nat) (w : World) (h : Rd w a n c X) (hT : Tabs w) (hn : n ≤ 1000000) (hm0 : -9223372036854775808 ≤ m) (hm1 : m ≤ 9223372036854775807) : Calls Tryd.prog 80 #[.slice a n c, .int .i64 m] w (AnsT X m w) := by
  refine (text_read a n c X m w h hT hn hm0 hm1).mono ?_
  rintro e w' (⟨h1, rfl, hx⟩ | ⟨h1, v, rfl, ho, hb⟩)
  · exact ansT (.inl ⟨h1, rfl, hx⟩)
  · obtain ⟨a1, n1, c1, rfl, hr⟩ := ownR ((h.bytes.drop _).drop _) ho
    exact ansT (.inr ⟨h1, a1, n1, c1, rfl, hr, hb⟩)

end Go.Proofs.YtomkcmkbehcjnaaDoor
