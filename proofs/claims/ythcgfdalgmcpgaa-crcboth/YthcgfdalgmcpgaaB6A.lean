/- Strings as numbers; roostkeep's Text and Twin; strings.IndexByte and strings.TrimSuffix at base64's digits and pad. -/
import Derived.Test.YthcgfdalgmcpgaaOwnA
import Derived.Test.YthcgfdalgmcpgaaB6P
import Derived.Lib.AppendStr
import Derived.Lib.Bytealg
namespace Go.Proofs.Ythcgfdalgmcpgaa
open Go.RowKit

def nums (s : ByteArray) : List Int := s.data.toList.map fun b => (b.toNat : Int)
theorem nums_len (s : ByteArray) : (nums s).length = s.size := by simp [nums]
theorem nums_bd (s : ByteArray) : Bd (nums s) := by
  intro x hx; simp [nums] at hx; obtain ⟨b, _, rfl⟩ := hx; have := b.toNat_lt; omega
theorem str_nums (s : ByteArray) : strOfNums (nums s) = s := by
  cases s with
  | mk d =>
    simp only [strOfNums, nums, List.map_map]
    congr 1
    rw [← Array.toList_inj]
    dsimp only
    conv => rhs; rw [← List.map_id d.toList]
    refine List.map_congr_left fun x _ => ?_
    simp
theorem nums_str {xs : List Int} (h : Bd xs) : nums (strOfNums xs) = xs := by
  refine str_inj (nums_bd _) h ?_
  rw [str_nums]
theorem str_size (xs : List Int) : (strOfNums xs).size = xs.length := by simp [strOfNums, ByteArray.size]
theorem str_extract (xs : List Int) (i j : Nat) : (strOfNums xs).extract i j = strOfNums ((xs.drop i).take (j - i)) := by
  rw [Lib.extract_eq]
  simp only [strOfNums]
  congr 1
  rw [← Array.toList_inj]
  simp

theorem rd_nilK (w : World) : Rd w none 0 0 [] := ⟨rfl, Nat.le_refl _, by unfold maxLen; omega, fun _ => rfl, Bd.nil, fun _ h => by cases h⟩

set_option maxHeartbeats 800000 in
theorem twin_any (a : Option Addr) (n c : Nat) (xs : List Int) (most : Nat) (w : World) (hR : Rd w a n c xs) (hm : most ≤ 100000) :
    Calls Try.prog 13 #[.slice a n c, .int .i64 most] w fun e w' => ∃ v, e = .returned v ∧ w'.ownsRow w.heap.size 5 1 v (xs.take most).length (bc (xs.take most)) ∧ Below w.heap.size w w' := by
  have hl := hR.len
  have hcp := hR.cap
  have hmx : c ≤ 9223372036854775807 := hR.most
  by_cases hn : (most : Int) < (n : Int)
  · have hlt : (xs.take most).length = most := by rw [List.length_take]; omega
    rw [hlt]
    go_enter Try.func13, Try.ntmps13
    go_wp2_with (at_builtin; refine wp_app0K rfl _ _ rfl rfl a most c (xs.take most) rfl (hR.takeK (by omega)) (by omega) ?_; intro v' w1 hown1 hb1 _)
    go_ret
    exact ⟨_, rfl, hown1, hb1⟩
  · have hlt : xs.take most = xs := List.take_of_length_le (by omega)
    rw [hlt, hl]
    go_enter Try.func13, Try.ntmps13
    go_wp2_with (at_builtin; refine wp_app0K rfl _ _ rfl rfl a n c xs rfl hR (by omega) ?_; intro v' w1 hown1 hb1 _)
    go_ret
    exact ⟨_, rfl, hown1, hb1⟩

/-- The same as own bytes, new since w. -/
def New (w w' : World) (v : Value) (xs : List Int) : Prop := w'.ownsRow w.heap.size 5 1 v xs.length (bc xs) ∧ Bd xs
theorem New.rd {w w' : World} {v : Value} {xs : List Int} (h : New w w' v xs) : ∃ a c, v = .slice a xs.length c ∧ Rd w' a xs.length c xs := Rd.ofOwn h.1 h.2

theorem few_any (a : Option Addr) (n c : Nat) (xs : List Int) (w : World) (hR : Rd w a n c xs) :
    Calls Try.prog 8 #[.slice a n c] w fun e w' => ∃ v, e = .returned v ∧ New w w' v (xs.take 1000) ∧ Below w.heap.size w w' := by
  have hb := hR.bytes.take 1000
  go_enter Try.func8, Try.ntmps8
  go_wp2_with (go_at_call 13; refine (twin_any a n c xs 1000 _ hR (by omega)).mono ?_; rintro e w1 ⟨v1, rfl, ho1, hb1⟩)
  go_ret
  exact ⟨_, rfl, ⟨ho1, hb⟩, hb1⟩
theorem fewR (a : Option Addr) (n c : Nat) (xs : List Int) (w : World) (hR : Rd w a n c xs) :
    Calls Try.prog 8 #[.slice a n c] w fun e w' => ∃ a' n' c', e = .returned (.slice a' n' c') ∧ n' ≤ 1000 ∧ Rd w' a' n' c' (xs.take 1000) ∧ Below w.heap.size w w' := by
  refine (few_any a n c xs w hR).mono ?_
  rintro e w1 ⟨v1, rfl, hn1, hb1⟩
  obtain ⟨a1, c1, rfl, hr1⟩ := hn1.rd
  exact ⟨a1, _, c1, rfl, by rw [List.length_take]; omega, hr1, hb1⟩

/-! ### strings.IndexByte -/
def ixv (c : Int) : Int := if dv c = 64 then -1 else (dv c : Int)
/-! ### strings.TrimSuffix of the pad -/
def endB (S : List Int) : Bool := decide (S.getLast? = some 61)
theorem endB_eq (S : List Int) (hb : Bd S) (h : 1 ≤ S.length) : ((strOfNums S).extract (S.length - 1) S.length).toList = [61] ↔ endB S = true := by
  rw [str_extract, Lib.toList_data]
  obtain ⟨X, c, rfl⟩ : ∃ X c, S = X ++ [c] := ⟨S.dropLast, S.getLast (by intro e; rw [e] at h; simp at h), (List.dropLast_concat_getLast _).symm⟩
  have hc := hb c (by simp)
  have hc' : c.toNat < 256 := by omega
  simp only [endB, List.getLast?_append, List.length_append, List.length_cons, List.length_nil, strOfNums]
  simp
  constructor
  · intro h
    have := congrArg UInt8.toNat h
    rw [UInt8.toNat_ofNat'] at this
    simp at this
    omega
  · intro h
    subst h; rfl

theorem endB_b (S : List Int) (hb : Bd S) (h : 1 ≤ S.length) : (((strOfNums S).extract (S.length - 1) S.length).toList == [61]) = endB S := by
  have := endB_eq S hb h
  cases he : endB S with
  | true => rw [this.2 he]; rfl
  | false =>
    rw [beq_eq_false_iff_ne]
    intro h
    rw [this.1 h] at he; cases he

theorem tr_str (S : List Int) : strOfNums (tr S) = if endB S then (strOfNums S).extract 0 (S.length - 1) else strOfNums S := by
  unfold tr endB
  by_cases h : S.getLast? = some 61
  · rw [if_pos h, str_extract]; simp [h, List.dropLast_eq_take]
  · rw [if_neg h]; simp [h]

end Go.Proofs.Ythcgfdalgmcpgaa
