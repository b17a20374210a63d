/- Strings as numbers; roostkeep's Text and Twin; strings.IndexByte and strings.TrimSuffix at base64's digits and pad. -/
import Derived.Test.YtmilcknboaefkaaGreatDoorOwnA
import Derived.Test.YtmilcknboaefkaaGreatDoorB6P
import Derived.Lib.AppendStr
import Derived.Lib.Bytealg
namespace Go.Proofs.YtmilcknboaefkaaGreatDoor
open Go.RowKit

def nums (s : ByteArray) : List Int := s.data.toList.map fun b => (b.toNat : Int)
theorem nums_len (s : ByteArray) : (nums s).length = s.size := by simp [nums]
theorem nums_bd (s : ByteArray) : Bd (nums s) := by
  intro x hx; simp [nums] at hx; obtain ⟨b, _, rfl⟩ := hx; have := b.toNat_lt; omega
theorem str_nums (s : ByteArray) : strOfNums (nums s) = s := by
  cases s with
  | mk d =>
    simp only [strOfNums, nums, List.map_map]
    congr 1
    rw [← Array.toList_inj]
    dsimp only
    conv => rhs; rw [← List.map_id d.toList]
    refine List.map_congr_left fun x _ => ?_
    simp
theorem nums_str {xs : List Int} (h : Bd xs) : nums (strOfNums xs) = xs := by
  refine str_inj (nums_bd _) h ?_
  rw [str_nums]
theorem str_size (xs : List Int) : (strOfNums xs).size = xs.length := by simp [strOfNums, ByteArray.size]
theorem str_extract (xs : List Int) (i j : Nat) : (strOfNums xs).extract i j = strOfNums ((xs.drop i).take (j - i)) := by
  rw [Lib.extract_eq]
  simp only [strOfNums]
  congr 1
  rw [← Array.toList_inj]
  simp

theorem rd_nilK (w : World) : Rd w none 0 0 [] := ⟨rfl, Nat.le_refl _, by unfold maxLen; omega, fun _ => rfl, Bd.nil, fun _ h => by cases h⟩

/-- The same as own bytes, new since w. -/
def New (w w' : World) (v : Value) (xs : List Int) : Prop := w'.ownsRow w.heap.size 5 1 v xs.length (bc xs) ∧ Bd xs
theorem New.rd {w w' : World} {v : Value} {xs : List Int} (h : New w w' v xs) : ∃ a c, v = .slice a xs.length c ∧ Rd w' a xs.length c xs := Rd.ofOwn h.1 h.2

/-- roostkeep.Text: a text that is cut. -/
theorem text_any (s : ByteArray) (most : Nat) (w : World) (_hs : s.size ≤ 9223372036854775807) (hm : most ≤ 100000) :
    Calls Tryz.prog 7 #[.string s, .int .i64 most] w fun e w' => e = .returned (.string (strOfNums ((nums s).take most))) ∧ w' = w := by
  have hl := nums_len s
  by_cases hn : (most : Int) < (s.size : Int)
  · have e1 : strOfNums ((nums s).take most) = s.extract 0 most := by
      conv => rhs; rw [← str_nums s]
      rw [str_extract]; simp
    rw [e1]
    go_enter Tryz.func7, Tryz.ntmps7
    go_wp2
    go_ret
    exact ⟨rfl, rfl⟩
  · have e1 : strOfNums ((nums s).take most) = s := by rw [List.take_of_length_le (by omega), str_nums]
    rw [e1]
    go_enter Tryz.func7, Tryz.ntmps7
    go_wp2
    go_ret
    exact ⟨rfl, rfl⟩

/-! ### strings.IndexByte -/
def ixv (c : Int) : Int := if dv c = 64 then -1 else (dv c : Int)
theorem ixvF : ∀ c : Fin 256, Lib.indexByte [65, 66, 67, 68, 69, 70, 71, 72, 73, 74, 75, 76, 77, 78, 79, 80, 81, 82, 83, 84, 85, 86, 87, 88, 89, 90, 97, 98, 99, 100, 101, 102, 103, 104, 105, 106, 107, 108, 109, 110, 111, 112, 113, 114, 115, 116, 117, 118, 119, 120, 121, 122, 48, 49, 50, 51, 52, 53, 54, 55, 56, 57, 43, 47] ((c.val : Int).toNat.toUInt8) = ixv c.val := by decide +kernel

set_option maxRecDepth 100000 in
theorem lindex_any (s : ByteArray) (c : Int) (w : World) :
    Calls Tryz.prog 134 #[.string s, .int .u8 c] w fun e w' => e = .returned (.int .i64 (Lib.indexByte s.data.toList c.toNat.toUInt8)) ∧ w' = w := by
  go_enter Tryz.func134, Tryz.ntmps134
  go_wp2
  rw [run_callFunc_extern Tryz.func150 (by kernel_rfl) (by kernel_rfl) (by kernel_rfl) (e := Extern.BytealgIndexByte.indexByte) (by kernel_rfl), Lib.run_indexByteString]
  simp only [Result.andThen]
  rw [Oper.upon_value]
  go_wp2
  go_ret
  exact ⟨rfl, rfl⟩

theorem index_any (c : Int) (w : World) (h0 : 0 ≤ c) (h1 : c ≤ 255) :
    Calls Tryz.prog 128 #[.string ⟨#[65, 66, 67, 68, 69, 70, 71, 72, 73, 74, 75, 76, 77, 78, 79, 80, 81, 82, 83, 84, 85, 86, 87, 88, 89, 90, 97, 98, 99, 100, 101, 102, 103, 104, 105, 106, 107, 108, 109, 110, 111, 112, 113, 114, 115, 116, 117, 118, 119, 120, 121, 122, 48, 49, 50, 51, 52, 53, 54, 55, 56, 57, 43, 47]⟩, .int .u8 c] w fun e w' => e = .returned (.int .i64 (ixv c)) ∧ w' = w := by
  have hx : Lib.indexByte [65, 66, 67, 68, 69, 70, 71, 72, 73, 74, 75, 76, 77, 78, 79, 80, 81, 82, 83, 84, 85, 86, 87, 88, 89, 90, 97, 98, 99, 100, 101, 102, 103, 104, 105, 106, 107, 108, 109, 110, 111, 112, 113, 114, 115, 116, 117, 118, 119, 120, 121, 122, 48, 49, 50, 51, 52, 53, 54, 55, 56, 57, 43, 47] (c.toNat.toUInt8) = ixv c := by
    have := ixvF ⟨c.toNat, by omega⟩
    simpa [show (c.toNat : Int) = c from by omega] using this
  go_enter Tryz.func128, Tryz.ntmps128
  go_wp2_with (go_at_call 134; refine (lindex_any _ c _).mono ?_; rintro e w' ⟨rfl, rfl⟩)
  go_ret
  exact ⟨rfl, rfl⟩

/-! ### strings.TrimSuffix of the pad -/
def endB (S : List Int) : Bool := decide (S.getLast? = some 61)
theorem endB_eq (S : List Int) (hb : Bd S) (h : 1 ≤ S.length) : ((strOfNums S).extract (S.length - 1) S.length).toList = [61] ↔ endB S = true := by
  rw [str_extract, Lib.toList_data]
  obtain ⟨X, c, rfl⟩ : ∃ X c, S = X ++ [c] := ⟨S.dropLast, S.getLast (by intro e; rw [e] at h; simp at h), (List.dropLast_concat_getLast _).symm⟩
  have hc := hb c (by simp)
  have hc' : c.toNat < 256 := by omega
  simp only [endB, List.getLast?_append, List.length_append, List.length_cons, List.length_nil, strOfNums]
  simp
  constructor
  · intro h
    have := congrArg UInt8.toNat h
    rw [UInt8.toNat_ofNat'] at this
    simp at this
    omega
  · intro h
    subst h; rfl

theorem endB_b (S : List Int) (hb : Bd S) (h : 1 ≤ S.length) : (((strOfNums S).extract (S.length - 1) S.length).toList == [61]) = endB S := by
  have := endB_eq S hb h
  cases he : endB S with
  | true => rw [this.2 he]; rfl
  | false =>
    rw [beq_eq_false_iff_ne]
    intro h
    rw [this.1 h] at he; cases he

set_option maxHeartbeats 1000000 in
theorem hasSuffix_any (S : List Int) (w : World) (hb : Bd S) (hn : S.length ≤ 1000000) :
    Calls Tryz.prog 147 #[.string (strOfNums S), .string ⟨#[61]⟩] w fun e w' => e = .returned (.bool (endB S)) ∧ w' = w := by
  have hsz := str_size S
  by_cases h : 1 ≤ S.length
  · have HE : Hid (_ = endB S) := endB_b S hb h
    obtain ⟨T, HT⟩ : ∃ T, Hid (strOfNums S = T) := ⟨_, rfl⟩
    rw [HT.out] at HE hsz ⊢
    have hd : (1 : Int) ≤ (S.length : Int) := by omega
    have hlo : ((S.length : Int) - 1 + 9223372036854775808) % 18446744073709551616 - 9223372036854775808 = ((S.length - 1 : Nat) : Int) := by omega
    clear hb
    go_enter Tryz.func147, Tryz.ntmps147
    go_wp2
    go_ret
    exact ⟨congrArg (fun b => Ending.returned (.bool b)) HE.out, rfl⟩
  · have h0 : S = [] := List.eq_nil_of_length_eq_zero (by omega)
    subst h0
    have hd : ¬ (1 : Int) ≤ 0 := by omega
    go_enter Tryz.func147, Tryz.ntmps147
    go_wp2
    go_ret
    exact ⟨rfl, rfl⟩

theorem tr_str (S : List Int) : strOfNums (tr S) = if endB S then (strOfNums S).extract 0 (S.length - 1) else strOfNums S := by
  unfold tr endB
  by_cases h : S.getLast? = some 61
  · rw [if_pos h, str_extract]; simp [h, List.dropLast_eq_take]
  · rw [if_neg h]; simp [h]

set_option maxHeartbeats 1000000 in
theorem ltrim_any (S : List Int) (w : World) (hb : Bd S) (hn : S.length ≤ 1000000) :
    Calls Tryz.prog 127 #[.string (strOfNums S), .string ⟨#[61]⟩] w fun e w' => e = .returned (.string (strOfNums (tr S))) ∧ w' = w := by
  have hsz := str_size S
  have hS := hasSuffix_any S w hb hn
  rw [tr_str S]
  cases h : endB S with
  | true =>
    have hp : 1 ≤ S.length := by
      cases S with
      | nil => simp [endB] at h
      | cons a l => simp
    rw [h] at hS
    obtain ⟨T, HT⟩ : ∃ T, Hid (strOfNums S = T) := ⟨_, rfl⟩
    rw [HT.out] at hS hsz ⊢
    have hlo : ((S.length : Int) - 1 + 9223372036854775808) % 18446744073709551616 - 9223372036854775808 = ((S.length - 1 : Nat) : Int) := by omega
    rw [if_pos rfl]
    go_enter Tryz.func127, Tryz.ntmps127
    go_wp2_with (go_at_call 147; refine hS.mono ?_; rintro e w' ⟨rfl, rfl⟩)
    go_ret
    exact ⟨rfl, rfl⟩
  | false =>
    rw [h] at hS
    obtain ⟨T, HT⟩ : ∃ T, Hid (strOfNums S = T) := ⟨_, rfl⟩
    rw [HT.out] at hS hsz ⊢
    rw [if_neg (by simp)]
    go_enter Tryz.func127, Tryz.ntmps127
    go_wp2_with (go_at_call 147; refine hS.mono ?_; rintro e w' ⟨rfl, rfl⟩)
    go_ret
    exact ⟨rfl, rfl⟩

theorem trim_any (S : List Int) (w : World) (hb : Bd S) (hn : S.length ≤ 1000000) :
    Calls Tryz.prog 107 #[.string (strOfNums S), .string ⟨#[61]⟩] w fun e w' => e = .returned (.string (strOfNums (tr S))) ∧ w' = w := by
  have hS := ltrim_any S w hb hn
  go_enter Tryz.func107, Tryz.ntmps107
  go_wp2_with (go_at_call 127; refine hS.mono ?_; rintro e w' ⟨rfl, rfl⟩)
  go_ret
  exact ⟨rfl, rfl⟩
end Go.Proofs.YtmilcknboaefkaaGreatDoor
