/- The disk's names: isName, strings.Clone, the names in order. -/
import Derived.Test.YtikkieaokfailaaGreatDoorDkA
import Derived.Test.YtikkieaokfailaaGreatDoorShelf
import Derived.Laws.RangeString
import Derived.Lib.DecodeN
namespace Go.Proofs.YtikkieaokfailaaGreatDoor
open Go.RowKit Go.Shelf Go.Sort Go.Maps

theorem clone_any (s : ByteArray) (w : World) (hs : s.size ≤ 281474976710656) : Calls Tryz.prog 87 #[.string s] w fun e w' => e = .returned (.string s) ∧ Below w.heap.size w w' := by
  have c : Calls Tryz.prog 126 #[.string s] w fun e w' => e = .returned (.string s) ∧ Below w.heap.size w w' := Any.stringslite_Clone Tryz.laysM316 s w hs
  go_enter Tryz.func87, Tryz.ntmps87
  go_wp2_with (go_at_call 126; refine c.mono ?_; rintro e w1 ⟨rfl, hb⟩)
  go_ret
  exact ⟨rfl, hb⟩

/-- A rune that has no place in a name. -/
def frn (r : Nat) : Bool := !((decide (97 ≤ r) && decide (r ≤ 122)) || (decide (48 ≤ r) && decide (r ≤ 57)) || decide (r = 46) || decide (r = 45))
theorem okc_frn (c : UInt8) : okc c = !frn c.toNat := by unfold okc frn; rw [Bool.not_not]

theorem ret_boolD {a b : Bool} (h : a = b) : Ending.returned (.bool a) = .returned (.bool b) := by rw [h]
set_option maxHeartbeats 1000000 in
theorem foreign_any (W : World) (r : Nat) : Calls Tryz.prog 92 #[.int .i32 (r : Int)] W fun e w' => e = .returned (.bool (frn r)) ∧ w' = W := by
  have hc : (97 ≤ r ∧ r ≤ 122) ∨ (122 < r) ∨ (57 < r ∧ r < 97) ∨ (48 ≤ r ∧ r ≤ 57) ∨ (r = 46) ∨ (r = 45) ∨ (r < 48 ∧ r ≠ 46 ∧ r ≠ 45) := by omega
  rcases hc with h | h | h | h | h | h | h
  · have hf : frn r = false := by unfold frn; simp; omega
    rw [hf]
    have q0 : 97 ≤ (r : Int) := by omega
    have q1 : (r : Int) ≤ 122 := by omega
    clear h hf
    go_enter Tryz.func92, Tryz.ntmps92
    go_wp2
    go_ret
    exact ⟨rfl, rfl⟩
  · have hf : frn r = true := by unfold frn; simp; omega
    rw [hf]
    have q0 : 97 ≤ (r : Int) := by omega
    have q1 : ¬ (r : Int) ≤ 122 := by omega
    have q2 : 48 ≤ (r : Int) := by omega
    have q3 : ¬ (r : Int) ≤ 57 := by omega
    have q4 : ((r : Int) == 46) = false := by simp; omega
    have q5 : ((r : Int) == 45) = false := by simp; omega
    clear h hf
    go_enter Tryz.func92, Tryz.ntmps92
    go_wp2
    go_ret
    exact ⟨rfl, rfl⟩
  · have hf : frn r = true := by unfold frn; simp; omega
    rw [hf]
    have q0 : ¬ 97 ≤ (r : Int) := by omega
    have q1 : 48 ≤ (r : Int) := by omega
    have q2 : ¬ (r : Int) ≤ 57 := by omega
    have q3 : ((r : Int) == 46) = false := by simp; omega
    have q4 : ((r : Int) == 45) = false := by simp; omega
    clear h hf
    go_enter Tryz.func92, Tryz.ntmps92
    go_wp2
    go_ret
    exact ⟨rfl, rfl⟩
  · have hf : frn r = false := by unfold frn; simp; omega
    rw [hf]
    have q0 : ¬ 97 ≤ (r : Int) := by omega
    have q1 : 48 ≤ (r : Int) := by omega
    have q2 : (r : Int) ≤ 57 := by omega
    clear h hf
    go_enter Tryz.func92, Tryz.ntmps92
    go_wp2
    go_ret
    exact ⟨rfl, rfl⟩
  · subst h
    go_enter Tryz.func92, Tryz.ntmps92
    go_wp2
    go_ret
    exact ⟨rfl, rfl⟩
  · subst h
    go_enter Tryz.func92, Tryz.ntmps92
    go_wp2
    go_ret
    exact ⟨rfl, rfl⟩
  · have hf : frn r = true := by unfold frn; simp; omega
    rw [hf]
    have q0 : ¬ 97 ≤ (r : Int) := by omega
    have q1 : ¬ 48 ≤ (r : Int) := by omega
    have q2 : ((r : Int) == 46) = false := by simp; omega
    have q3 : ((r : Int) == 45) = false := by simp; omega
    clear h hf
    go_enter Tryz.func92, Tryz.ntmps92
    go_wp2
    go_ret
    exact ⟨rfl, rfl⟩

theorem decode_high (s : ByteArray) (pos : Nat) (h : 128 ≤ (s.get! pos).toNat) : 128 ≤ (Utf8.decode s pos).1 := by
  rw [Lib.decode_at]
  generalize (s.get! pos).toNat = b0 at h
  generalize (s.get! (pos + 1)).toNat = b1
  generalize (s.get! (pos + 2)).toNat = b2
  generalize (s.get! (pos + 3)).toNat = b3
  unfold Lib.decodeN
  repeat' split
  all_goals first | omega | (simp only; omega)

theorem len_bytes (s : ByteArray) : s.data.toList.length = s.size := rfl
theorem get_list (s : ByteArray) (pos : Nat) (h : pos < s.size) : s.data.toList.drop pos = s[pos] :: s.data.toList.drop (pos + 1) := by
  have : pos < s.data.toList.length := by rw [len_bytes]; exact h
  rw [List.drop_eq_getElem_cons this]
  rfl
theorem get_bang (s : ByteArray) (pos : Nat) (h : pos < s.size) : s.get! pos = s[pos] := by
  obtain ⟨d⟩ := s
  have h2 : pos < d.size := h
  show d[pos]! = d[pos]
  rw [getElem!_pos d pos h2]

theorem idx_all (s : ByteArray) : ∀ f pos, s.size ≤ pos + f → (decide (0 ≤ Lib.idxFuncFrom frn true s f pos) = !((s.data.toList.drop pos).all okc))
  | 0, pos, h => by
    have : s.data.toList.drop pos = [] := List.drop_eq_nil_of_le (by rw [len_bytes]; omega)
    rw [this]
    unfold Lib.idxFuncFrom
    decide
  | f + 1, pos, h => by
    unfold Lib.idxFuncFrom
    by_cases hp : pos < s.size
    · rw [if_pos hp, get_list s pos hp, List.all_cons, okc_frn]
      by_cases ha : s[pos].toNat < 128
      · rw [decode_ascii s pos hp ha]
        cases hf : frn s[pos].toNat with
        | true => simp
        | false =>
          simp only [Bool.false_eq_true, if_false, Bool.not_false, Bool.true_and]
          exact idx_all s f (pos + 1) (by omega)
      · have hd := decode_high s pos (by rw [get_bang s pos hp]; omega)
        have h1 : frn (Utf8.decode s pos).1 = true := by unfold frn; simp; omega
        have h2 : frn s[pos].toNat = true := by unfold frn; simp; omega
        rw [if_pos h1, h2]
        simp
    · rw [if_neg hp]
      have : s.data.toList.drop pos = [] := List.drop_eq_nil_of_le (by rw [len_bytes]; omega)
      rw [this]
      decide

theorem contF_any (s : ByteArray) (w : World) : Calls Tryz.prog 91 #[.string s, .func (.func 92) #[] #[]] w fun e w' => e = .returned (.bool (!(s.data.toList.all okc))) ∧ Below w.heap.size w w' := by
  have hp : PredAt Tryz.prog 92 #[] encR frn w := fun W r _ => by
    unfold FnGives
    refine (foreign_any W r).mono ?_
    rintro e w' ⟨rfl, rfl⟩
    exact ⟨rfl, 0, rfl⟩
  have c : Calls Tryz.prog 91 _ w _ := Any.strings_ContainsFunc Tryz.laysGw17 92 #[] (enters_of Tryz.func92 (by kernel_rfl) rfl) frn s w hp
  refine c.mono ?_
  rintro e w' ⟨rfl, hb⟩
  refine ⟨?_, hb⟩
  have := idx_all s s.size 0 (by omega)
  unfold Lib.idxFunc
  rw [this]
  rfl

set_option maxHeartbeats 1000000 in
theorem isName_any (s : ByteArray) (w : World) : Calls Tryz.prog 51 #[.string s] w fun e w' => e = .returned (.bool (isNm s)) ∧ Below w.heap.size w w' := by
  have hC := fun w => contF_any s w
  unfold isNm
  generalize hx : s.data.toList.all okc = x at hC ⊢
  by_cases h1 : 1 ≤ s.size
  · by_cases h2 : s.size ≤ 64
    · rw [decide_eq_true h1, decide_eq_true h2]
      have h1' : (1 : Int) ≤ (s.size : Int) := by omega
      have h2' : (s.size : Int) ≤ 64 := by omega
      clear hx h1 h2
      go_enter Tryz.func51, Tryz.ntmps51
      go_wp2_with (go_at_call 91; refine (hC _).mono ?_; rintro e w1 ⟨rfl, hb⟩)
      go_ret
      refine ⟨?_, hb⟩
      cases x <;> rfl
    · rw [decide_eq_true h1, decide_eq_false h2]
      have h1' : (1 : Int) ≤ (s.size : Int) := by omega
      have h2' : ¬ (s.size : Int) ≤ 64 := by omega
      clear hx h1 h2
      go_enter Tryz.func51, Tryz.ntmps51
      go_wp2
      go_ret
      exact ⟨rfl, Below.refl _ _⟩
  · rw [decide_eq_false h1]
    have h1' : ¬ (1 : Int) ≤ (s.size : Int) := by omega
    clear hx h1
    go_enter Tryz.func51, Tryz.ntmps51
    go_wp2
    go_ret
    exact ⟨rfl, Below.refl _ _⟩

end Go.Proofs.YtikkieaokfailaaGreatDoor
