/- Copies and forms, as slices that read in a later world. -/
import Derived.Test.YtephpbbooicfoaaDoorShared
import Derived.Test.YtephpbbooicfoaaDoorTexts
import Derived.Test.YtephpbbooicfoaaDoorPutI
import Derived.Test.YtephpbbooicfoaaDoorPutF
import Derived.Test.YtephpbbooicfoaaDoorExt
namespace Go.Proofs.YtephpbbooicfoaaDoor
open Go.RowKit

theorem fewR (a : Option Addr) (n c : Nat) (xs : List Int) (w : World) (hR : Rd w a n c xs) :
    Calls Tryd.prog 6 #[.slice a n c] w fun e w' => ∃ a' n' c', e = .returned (.slice a' n' c') ∧ n' ≤ 2000 ∧ Rd w' a' n' c' (xs.take 2000) ∧ Ext w w' := by
  go_enter Tryd.func6, Tryd.ntmps6
  go_wp2_with (go_at_call 28; refine (twinR a n c xs 2000 _ hR (by omega)).mono ?_; rintro e w1 ⟨a1, n1, c1, rfl, hn1, hr1, hb1⟩)
  go_ret
  exact ⟨a1, n1, c1, rfl, hn1, hr1, hb1⟩

theorem fewS (a : Option Addr) (n c : Nat) (xs : List Int) (w : World) (hR : Rd w a n c xs) (hX : xs.length ≤ 2000) :
    Calls Tryd.prog 6 #[.slice a n c] w fun e w' => ∃ a' n' c', e = .returned (.slice a' n' c') ∧ n' ≤ 2000 ∧ Rd w' a' n' c' xs ∧ Ext w w' := by
  have h := fewR a n c xs w hR
  rw [List.take_of_length_le hX] at h
  exact h

theorem toR {e : Ending} {w w' : World} {M : Nat} {Z : List Int} (hZ : Bd Z) (h : ∃ v, e = .returned v ∧ w'.ownsRow w.heap.size 5 1 v M (bc Z) ∧ Below w.heap.size w w') : ∃ a' n' c', e = .returned (.slice a' n' c') ∧ Rd w' a' n' c' Z ∧ Ext w w' := by
  obtain ⟨v, rfl, ho, hb⟩ := h
  obtain ⟨a1, c1, rfl, hr1⟩ := Rd.ofOwn ho hZ
  exact ⟨a1, _, c1, rfl, hr1, hb⟩

theorem putIntR (a : Option Addr) (n c : Nat) (xs : List Int) (k : Int) (w : World) (h : Rd w a n c xs) (hn : n ≤ 100000) (h0 : -9223372036854775808 ≤ k) (h1 : k ≤ 9223372036854775807) :
    Calls Tryd.prog 19 #[.slice a n c, .int .i64 k] w fun e w' => ∃ a' n' c', e = .returned (.slice a' n' c') ∧ Rd w' a' n' c' (xs ++ form (foldv k)) ∧ Ext w w' :=
  (putInt_any a n c xs k w h hn h0 h1).mono fun _ _ => toR (h.bytes.append (form_bd _))
theorem putFloatR (a : Option Addr) (n c : Nat) (xs : List Int) (x : Nat) (w : World) (h : Rd w a n c xs) (hn : n ≤ 100000) (hx : x < 18446744073709551616) :
    Calls Tryd.prog 20 #[.slice a n c, .float .f64 x] w fun e w' => ∃ a' n' c', e = .returned (.slice a' n' c') ∧ Rd w' a' n' c' (xs ++ fbl (bitsv x) 8) ∧ Ext w w' :=
  (putFloat_any a n c xs x w h hn hx).mono fun _ _ => toR (h.bytes.append (fbl_bd _ 8))
theorem putTextR (a : Option Addr) (n c : Nat) (xs : List Int) (s : ByteArray) (w : World) (h : Rd w a n c xs) (hn : n ≤ 100000) (hs : s.size ≤ 100000) :
    Calls Tryd.prog 22 #[.slice a n c, .string s] w fun e w' => ∃ a' n' c', e = .returned (.slice a' n' c') ∧ Rd w' a' n' c' (xs ++ form s.size ++ nums s) ∧ Ext w w' :=
  (putText_any a n c xs s w h hn hs).mono fun _ _ => toR ((h.bytes.append (form_bd _)).append (nums_bd s))

end Go.Proofs.YtephpbbooicfoaaDoor
