/- Copies and forms, as slices that read in a later world. -/
import Derived.Test.YtomkcmkbehcjnaaDoorShared
import Derived.Test.YtomkcmkbehcjnaaDoorTexts
import Derived.Test.YtomkcmkbehcjnaaDoorPutI
import Derived.Test.YtomkcmkbehcjnaaDoorPutF
import Derived.Test.YtomkcmkbehcjnaaDoorExt
namespace Go.Proofs.YtomkcmkbehcjnaaDoor
open Go.RowKit

theorem toR {e : Ending} {w w' : World} {M : Nat} {Z : List Int} (hZ : Bd Z) (h : ∃ v, e = .returned v ∧ w'.ownsRow w.heap.size 5 1 v M (bc Z) ∧ Below w.heap.size w w') : ∃ a' n' c', e = .returned (.slice a' n' c') ∧ Rd w' a' n' c' Z ∧ Ext w w' := by
  obtain ⟨v, rfl, ho, hb⟩ := h
  obtain ⟨a1, c1, rfl, hr1⟩ := Rd.ofOwn ho hZ
  exact ⟨a1, _, c1, rfl, hr1, hb⟩

theorem putIntR (a : Option Addr) (n c : Nat) (xs : List Int) (k : Int) (w : World) (h : Rd w a n c xs) (hn : n ≤ 100000) (h0 : -9223372036854775808 ≤ k) (h1 : k ≤ 9223372036854775807) :
    Calls Tryd.prog 54 #[.slice a n c, .int .i64 k] w fun e w' => ∃ a' n' c', e = .returned (.slice a' n' c') ∧ Rd w' a' n' c' (xs ++ form (foldv k)) ∧ Ext w w' :=
  (putInt_any a n c xs k w h hn h0 h1).mono fun _ _ => toR (h.bytes.append (form_bd _))
theorem putFloatR (a : Option Addr) (n c : Nat) (xs : List Int) (x : Nat) (w : World) (h : Rd w a n c xs) (hn : n ≤ 100000) (hx : x < 18446744073709551616) :
    Calls Tryd.prog 55 #[.slice a n c, .float .f64 x] w fun e w' => ∃ a' n' c', e = .returned (.slice a' n' c') ∧ Rd w' a' n' c' (xs ++ fbl (bitsv x) 8) ∧ Ext w w' :=
  (putFloat_any a n c xs x w h hn hx).mono fun _ _ => toR (h.bytes.append (fbl_bd _ 8))
theorem putTextR (a : Option Addr) (n c : Nat) (xs : List Int) (s : ByteArray) (w : World) (h : Rd w a n c xs) (hn : n ≤ 100000) (hs : s.size ≤ 100000) :
    Calls Tryd.prog 52 #[.slice a n c, .string s] w fun e w' => ∃ a' n' c', e = .returned (.slice a' n' c') ∧ Rd w' a' n' c' (xs ++ form s.size ++ nums s) ∧ Ext w w' :=
  (putText_any a n c xs s w h hn hs).mono fun _ _ => toR ((h.bytes.append (form_bd _)).append (nums_bd s))

end Go.Proofs.YtomkcmkbehcjnaaDoor
