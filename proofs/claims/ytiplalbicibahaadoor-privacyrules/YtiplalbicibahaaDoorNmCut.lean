/- strings.Cut, at one byte. -/
import Derived.Test.YtiplalbicibahaaDoorNmDef
import Derived.Test.YtiplalbicibahaaDoorShelf
import Derived.WalkKit
import Derived.WalkLawsBesides
import Derived.WalkSpells
namespace Go.Proofs.YtiplalbicibahaaDoor.Nm
open Go.RowKit Go.Shelf

theorem indexByte_any (s : ByteArray) (c : Int) (w : World) : Calls Tryd.prog 64 #[.string s, .int .u8 c] w fun e w' => e = .returned (.int .i64 (Lib.indexByte s.data.toList c.toNat.toUInt8)) ∧ w' = w :=
  Any.stringslite_IndexByte Tryd.lays217 s c w

theorem index_any (s t : ByteArray) (c : UInt8) (ht : t = ⟨#[c]⟩) (w : World) : Calls Tryd.prog 60 #[.string s, .string t] w fun e w' => e = .returned (.int .i64 (Lib.indexByte s.data.toList c)) ∧ w' = w := by
  have hz : (t.size : Int) = 1 := by rw [ht]; rfl
  have hz0 : ((1 : Int) == 0) = false := rfl
  have hix : ∀ w, (Instr.index 9 (.string t) (.int .i64 0)).run Tryd.prog w = .ok (.int .u8 c.toNat) w := fun w => by
    rw [run_index_string w 9 t .i64 0 Tryd.underlying9, dif_pos ⟨by omega, by omega⟩]
    subst ht
    rfl
  have hcc : ((c.toNat : Int)).toNat.toUInt8 = c := by simp
  have cI := indexByte_any s c.toNat w
  rw [hcc] at cI
  have hlist : ∀ a b : ByteArray, a.toList = b.toList → a = b := fun a b h => by
    rw [Lib.toList_data, Lib.toList_data] at h
    cases a; cases b
    exact congrArg ByteArray.mk (Array.toList_inj.1 h)
  by_cases hst : t.toList = s.toList
  · have hb : (t.toList == s.toList) = true := by rw [hst]; exact beq_self_eq_true _
    have hI : Lib.indexByte s.data.toList c = 0 := by rw [← hlist t s hst, ht]; simp [Lib.indexByte]
    rw [hI]
    clear ht hst hlist
    go_enter Tryd.func60, Tryd.ntmps60
    go_wp2
    go_ret
    exact ⟨rfl, rfl⟩
  · have hb : (t.toList == s.toList) = false := by simpa using hst
    clear ht hst hlist
    go_enter Tryd.func60, Tryd.ntmps60
    go_wp2_with (go_at_call 64; refine cI.mono ?_; rintro e w1 ⟨rfl, rfl⟩)
    go_ret
    exact ⟨rfl, rfl⟩

def cutV (c : UInt8) (l : List UInt8) : Value := .tuple #[.string ⟨(cutA c l).toArray⟩, .string ⟨(cutZ c l).toArray⟩, .bool (hasB c l)]

theorem lcut_any (s t : ByteArray) (c : UInt8) (ht : t = ⟨#[c]⟩) (w : World) (hs : s.size ≤ 9223372036854775807) : Calls Tryd.prog 58 #[.string s, .string t] w fun e w' => e = .returned (cutV c s.data.toList) ∧ ∃ q, w' = w.drewN q := by
  have hz : (t.size : Int) = 1 := by rw [ht]; rfl
  have cI := index_any s t c ht w
  clear ht
  rw [indexByte_ix] at cI
  have hle := ix_le c s.data.toList
  have hlen : s.data.toList.length = s.size := by simp
  by_cases h : ix c s.data.toList < s.data.toList.length
  · rw [if_pos h] at cI
    obtain ⟨i, hi⟩ : ∃ i, ix c s.data.toList = i := ⟨_, rfl⟩
    rw [hi] at cI h hle
    have e1 : (⟨(cutA c s.data.toList).toArray⟩ : ByteArray) = s.extract 0 i := by rw [cutA, hi, Lib.extract_eq]; simp
    have e2 : (⟨(cutZ c s.data.toList).toArray⟩ : ByteArray) = s.extract (i + 1) s.size := by
      rw [cutZ, hi, Lib.extract_eq, List.take_of_length_le (by rw [List.length_drop, ← hlen]; exact Nat.le_refl _)]
    have e3 : hasB c s.data.toList = true := by rw [hasB, hi]; exact decide_eq_true h
    have c1 : (0 : Int) ≤ (i : Int) := by omega
    have c2 : (i : Int) ≤ (s.size : Int) := by omega
    have c3 : (0 : Int) ≤ (i : Int) + 1 := by omega
    have c4 : (i : Int) + 1 ≤ (s.size : Int) := by omega
    rw [cutV, e1, e2, e3]
    clear hi e1 e2 e3 hle h hlen
    go_enter Tryd.func58, Tryd.ntmps58
    go_wp2_with (go_at_call 60; refine cI.mono ?_; rintro e w1 ⟨rfl, rfl⟩)
    go_region
    all_goals (try go_wp2)
    all_goals go_ret3
    all_goals exact ⟨rfl, 1, rfl⟩
  · rw [if_neg h] at cI
    have hi : ix c s.data.toList = s.data.toList.length := by omega
    have e1 : (⟨(cutA c s.data.toList).toArray⟩ : ByteArray) = s := by rw [cutA, hi, List.take_length]
    have e2 : (⟨(cutZ c s.data.toList).toArray⟩ : ByteArray) = ⟨#[]⟩ := by rw [cutZ, hi, List.drop_of_length_le (Nat.le_succ _)]
    have e3 : hasB c s.data.toList = false := by rw [hasB]; exact decide_eq_false h
    rw [cutV, e1, e2, e3]
    clear hi e1 e2 e3 hle h hlen
    go_enter Tryd.func58, Tryd.ntmps58
    go_wp2_with (go_at_call 60; refine cI.mono ?_; rintro e w1 ⟨rfl, rfl⟩)
    go_ret3
    exact ⟨rfl, 0, rfl⟩

theorem cut_any (s t : ByteArray) (c : UInt8) (ht : t = ⟨#[c]⟩) (w : World) (hs : s.size ≤ 9223372036854775807) : Calls Tryd.prog 54 #[.string s, .string t] w fun e w' => e = .returned (cutV c s.data.toList) ∧ ∃ q, w' = w.drewN q := by
  have cI := lcut_any s t c ht w hs
  unfold cutV at cI ⊢
  clear ht
  generalize cutA c s.data.toList = A at cI ⊢
  generalize cutZ c s.data.toList = Z at cI ⊢
  generalize hasB c s.data.toList = H at cI ⊢
  go_enter Tryd.func54, Tryd.ntmps54
  go_wp2_with (go_at_call 58; refine cI.mono ?_; rintro e w1 ⟨rfl, q, rfl⟩)
  go_ret3
  exact ⟨rfl, q, rfl⟩
end Go.Proofs.YtiplalbicibahaaDoor.Nm
