/- What the laws share: an argument that is a slice of bytes, opened; copies and forms as slices that read. -/
import Derived.Test.YtomkcmkbehcjnaaDoorPut
import Derived.Test.YtomkcmkbehcjnaaDoorUint
import Derived.Test.YtomkcmkbehcjnaaDoorTwin
import Derived.ProofKit
import Derived.OpenShut
import Derived.ShutString
import Derived.ChangeOld
namespace Go.Proofs.YtomkcmkbehcjnaaDoor
open Go.ChangeShapes Go.WideShapes Go.ChangeAt Go.RowKit

theorem rd_nil (w : World) : Rd w none 0 0 [] := ⟨rfl, Nat.le_refl _, by unfold maxLen; omega, fun _ => rfl, Bd.nil, fun _ h => by cases h⟩

theorem rd_of_trod {H : Type} {enc : TypeId × Value → H} {W : World} {a : Option Addr} {n c : Nat} {d : DataW H} {ps : List MemPlace}
    (h : DataW.Trod enc Tryd.prog W 0 (fun _ => true) true 28 (.slice a n c) d ps) : ∃ zs, Rd W a n c zs := by
  obtain ⟨fuel, hf⟩ := h
  rcases open_ints Tryd.underlying28 Tryd.underlying5 (by kernel_rfl) hf with ⟨hcs, _⟩ | ⟨x, l, cc, zs, hcs, _, hl, hm, hz, _, hcell, hwz⟩
  · simp [Value.cells] at hcs
    obtain ⟨rfl, rfl, rfl⟩ := hcs
    exact ⟨[], rd_nil W⟩
  · simp [Value.cells] at hcs
    obtain ⟨rfl, rfl, rfl⟩ := hcs
    have hz' : zs.length = c := by simpa using hz
    refine ⟨zs.take n, by rw [List.length_take]; omega, hl, hm, (fun h => by cases h), fun y hy => ?_, fun ad had j hj => ?_⟩
    · have := bounds_u8 (hwz y (List.mem_of_mem_take hy)); omega
    · cases had
      rw [hcell j (by omega)]
      simp [List.getD, hj]

theorem putNil (k : Nat) (w : World) (hk : k < 18446744073709551616) : Calls Tryd.prog 26 #[.slice none 0 0, .int .u64 k] w fun e w' => ∃ a1 c1, e = .returned (.slice a1 (form k).length c1) ∧ Rd w' a1 (form k).length c1 (form k) ∧ Below w.heap.size w w' := by
  refine (putUint_any none 0 0 [] k w (rd_nil w) (by omega) hk).mono ?_
  rintro e w1 ⟨v1, rfl, hown1, hb1⟩
  rw [Nat.zero_add, List.nil_append] at hown1
  obtain ⟨a1, c1, rfl, hr1⟩ := Rd.ofOwn hown1 (form_bd k)
  exact ⟨a1, c1, rfl, hr1, hb1⟩

theorem twinR (a : Option Addr) (n c : Nat) (xs : List Int) (most : Nat) (w : World) (hR : Rd w a n c xs) (hm : most ≤ 100000) :
    Calls Tryd.prog 15 #[.slice a n c, .int .i64 most] w fun e w' => ∃ a' n' c', e = .returned (.slice a' n' c') ∧ n' ≤ most ∧ Rd w' a' n' c' (xs.take most) ∧ Below w.heap.size w w' := by
  refine (twin_any a n c xs most w hR hm).mono ?_
  rintro e w1 ⟨v1, rfl, hown1, hb1⟩
  obtain ⟨a1, c1, rfl, hr1⟩ := Rd.ofOwn hown1 (hR.bytes.take most)
  exact ⟨a1, _, c1, rfl, by rw [List.length_take]; omega, hr1, hb1⟩

theorem putR (a : Option Addr) (n c : Nat) (xs : List Int) (k : Nat) (w : World) (h : Rd w a n c xs) (hn : n ≤ 100000) (hk : k < 18446744073709551616) :
    Calls Tryd.prog 26 #[.slice a n c, .int .u64 k] w fun e w' => ∃ a' n' c', e = .returned (.slice a' n' c') ∧ Rd w' a' n' c' (xs ++ form k) ∧ Below w.heap.size w w' := by
  refine (putUint_any a n c xs k w h hn hk).mono ?_
  rintro e w1 ⟨v1, rfl, hown1, hb1⟩
  obtain ⟨a1, c1, rfl, hr1⟩ := Rd.ofOwn hown1 (h.bytes.append (form_bd k))
  exact ⟨a1, _, c1, rfl, hr1, hb1⟩

end Go.Proofs.YtomkcmkbehcjnaaDoor
