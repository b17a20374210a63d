/- The document's cut: where a byte stands first. -/
import Derived.Test.YtikklhnkkfimfaaDoorNmRefH
namespace Go.Proofs.YtikklhnkkfimfaaDoor
open Go.RowKit

theorem ix_skip {c : UInt8} {l : List UInt8} {k : Nat} (hk : k < l.length) (h : ∀ j, j < k → l.getD j 0 ≠ c) (hc : l[k] = c) : ix c l = k := by
  unfold ix
  rw [List.findIdx_eq hk]
  refine ⟨by simp [hc], fun j hj => ?_⟩
  have := h j hj
  rw [List.getD, List.getElem?_eq_getElem (by omega)] at this
  simpa using this
theorem ix_none {c : UInt8} {l : List UInt8} (h : ∀ j, j < l.length → l.getD j 0 ≠ c) : ¬ ix c l < l.length := by
  unfold ix
  intro hlt
  have := List.findIdx_getElem (w := hlt)
  have h2 := h _ hlt
  rw [List.getD, List.getElem?_eq_getElem hlt] at h2
  simp at this
  exact h2 this

set_option maxHeartbeats 1600000 in
theorem refCut_any (s : ByteArray) (c : UInt8) (w : World) (hs : s.size ≤ 9223372036854775807) :
    Calls Tryd.prog 35 #[.string s, .int .u8 c.toNat] w fun e w' => e = .returned (.int .i64 (if hasB c s.data.toList = true then (ix c s.data.toList : Int) else -1)) ∧ w' = w := by
  have hlen : s.data.toList.length = s.size := by simp
  obtain ⟨R, hR⟩ : ∃ R : Int, (if hasB c s.data.toList = true then (ix c s.data.toList : Int) else -1) = R := ⟨_, rfl⟩
  rw [hR]
  go_enter Tryd.func35, Tryd.ntmps35
  go_wp2
  go_loop [5] (fun i => ∃ k : Nat, k ≤ s.size ∧ i = .int .i64 k ∧ Hid (∀ j, j < k → s.data.toList.getD j 0 ≠ c)) (fun i => s.size - (intOf i).toNat)
  case atStart => exact ⟨0, by omega, rfl, fun j hj => by omega⟩
  case round =>
    obtain ⟨k, hk, rfl, HN⟩ := hrel
    by_cases hp : k < s.size
    · have hpz : (k : Int) < (s.size : Int) := by omega
      have hix := fun w => idxS s k w hp
      have hget : s.data.toList[k]'(by rw [hlen]; exact hp) = s.data[k]'hp := by simp
      obtain ⟨b, hb⟩ : ∃ b, s.data[k]'hp = b := ⟨_, rfl⟩
      rw [hb] at hix hget
      clear hb
      by_cases hbc : b = c
      · have hb2 : ((b.toNat : Int) == (c.toNat : Int)) = true := by rw [hbc]; simp
        have hRR : Hid (R = (k : Int)) := by
          show R = _
          have e := ix_skip (by rw [hlen]; exact hp) HN.out (hget.trans hbc)
          rw [← hR, if_pos (by unfold hasB; rw [e]; simp; exact hp), e]
        go_wp2
        go_ret
        rw [hRR.out]
        exact ⟨rfl, rfl⟩
      · have hne : (b.toNat : Int) ≠ (c.toNat : Int) := fun h => hbc (UInt8.toNat_inj.1 (by exact_mod_cast h))
        have hb2 : ((b.toNat : Int) == (c.toNat : Int)) = false := by simpa using hne
        go_wp2
        refine ⟨⟨k + 1, by omega, by simp, fun j hj => ?_⟩, by simp [intOf]; omega⟩
        by_cases hjk : j = k
        · subst hjk
          rw [List.getD, List.getElem?_eq_getElem (by rw [hlen]; exact hp), hget]
          exact hbc
        · exact HN.out j (by omega)
    · have hkn : k = s.size := by omega
      have hpz : (s.size : Int) ≤ (k : Int) := by omega
      have hRR : Hid (R = -1) := by
        show R = _
        have e := ix_none (c := c) (l := s.data.toList) (fun j hj => HN.out j (by rw [hlen] at hj; omega))
        rw [← hR, if_neg (by unfold hasB; simpa using e)]
      go_wp2
      go_ret
      rw [hRR.out]
      exact ⟨rfl, rfl⟩
end Go.Proofs.YtikklhnkkfimfaaDoor
