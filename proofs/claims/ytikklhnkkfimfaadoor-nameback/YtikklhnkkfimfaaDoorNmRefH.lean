/- The document's Host. -/
import Derived.Test.YtikklhnkkfimfaaDoorNmHostB
import Derived.Test.YtikklhnkkfimfaaDoorNmVld
import Derived.Below
namespace Go.Proofs.YtikklhnkkfimfaaDoor
open Go.RowKit

theorem idxS (s : ByteArray) (k : Nat) (w : World) (h : k < s.size) : (Instr.index 9 (.string s) (.int .i64 k)).run Tryd.prog w = .ok (.int .u8 ((s.data[k]'h).toNat)) w := by
  rw [run_index_string w 9 s .i64 (k : Int) Tryd.underlying9, dif_pos ⟨by omega, by omega⟩]
  rfl

theorem conv_one (W : World) (v : Int) (h0 : 0 ≤ v) (h1 : v ≤ 255) : (convert 43 9 (.slice (some ⟨W.heap.size, 0, none⟩) 1 1)).run Tryd.prog (W.alloc (.cells #[.int .u8 v] 5)) = .ok (.string ⟨#[v.toNat.toUInt8]⟩) (W.alloc (.cells #[.int .u8 v] 5)) := by
  have hR : Rd (W.alloc (.cells #[.int .u8 v] 5)) (some ⟨W.heap.size, 0, none⟩) 1 1 [v] := by
    refine ⟨rfl, Nat.le_refl _, by unfold maxLen; omega, (fun h => by cases h), by intro x hx; simp at hx; omega, fun ad had j hj => ?_⟩
    cases had
    rw [add_flat]
    match j, hj with
    | 0, _ => simp
  rw [hR.string]
  rfl

theorem host_fin {l : List UInt8} {acc : List UInt8} {k : Nat} {last c : Int}
    (HE : hgo 46 l = (match (if goodB last (small c) = true then (match hgo (small c) (l.drop (k + 1)) with | none => none | some (bs, z) => some ((small c).toNat.toUInt8 :: bs, z)) else none) with | none => none | some (bs, z) => some (acc ++ bs, z)))
    (C : Int) (hC : small c = C) (hg : goodB last C = true) :
    hgo 46 l = (match hgo C (l.drop (k + 1)) with | none => none | some (bs, z) => some ((acc ++ [C.toNat.toUInt8]) ++ bs, z)) := by
  rw [HE, hC, if_pos hg]
  cases hgo C (l.drop (k + 1)) with
  | none => rfl
  | some p => simp
theorem host_bad {l : List UInt8} {acc : List UInt8} {k : Nat} {last c : Int} {R : List UInt8 × Nat}
    (HE : hgo 46 l = (match (if goodB last (small c) = true then (match hgo (small c) (l.drop (k + 1)) with | none => none | some (bs, z) => some ((small c).toNat.toUInt8 :: bs, z)) else none) with | none => none | some (bs, z) => some (acc ++ bs, z)))
    (hR : hostE (hgo 46 l) = R) (hg : ¬ goodB last (small c) = true) : R = ([], 4) := by
  rw [← hR, HE, if_neg hg]; rfl

set_option maxHeartbeats 8000000 in
set_option maxRecDepth 1000000 in
theorem refHost_any (s : ByteArray) (w : World) (hs : s.size ≤ 9223372036854775807) :
    Calls Tryd.prog 12 #[.string s] w fun e w' => e = .returned (.tuple #[.string ⟨(hostN s.data.toList).1.toArray⟩, .int .i64 (hostN s.data.toList).2]) ∧ Below w.heap.size w w' := by
  have hlen : s.data.toList.length = s.size := by simp
  rw [hostN_hostB]
  unfold hostB
  rw [hlen]
  by_cases h64 : 64 < s.size
  · rw [if_pos h64]
    have h64' : (64 : Int) < (s.size : Int) := by omega
    go_enter Tryd.func12, Tryd.ntmps12
    go_wp2
    go_ret2
    exact ⟨rfl, Below.refl _ _⟩
  rw [if_neg h64]
  have h64' : ¬ (64 : Int) < (s.size : Int) := by omega
  obtain ⟨R, hR⟩ : ∃ R, hostE (hgo 46 s.data.toList) = R := ⟨_, rfl⟩
  rw [hR]
  go_enter Tryd.func12, Tryd.ntmps12
  go_wp2
  go_loopw [4, 5, 6] (fun out la i wr => ∃ (k : Nat) (acc : List UInt8) (last : Int), k ≤ s.size ∧ i = .int .i64 k ∧ out = .string ⟨acc.toArray⟩ ∧ la = .int .u8 last ∧ Below w.heap.size w wr ∧ acc.length ≤ k ∧
    hgo 46 s.data.toList = (match hgo last (s.data.toList.drop k) with | none => none | some (bs, z) => some (acc ++ bs, z))) (fun _ _ i _ => s.size - (intOf i).toNat)
  case atStart =>
    refine ⟨0, [], 46, by omega, rfl, rfl, rfl, Below.refl _ _, by simp, ?_⟩
    rw [List.drop_zero]
    cases hgo 46 s.data.toList with
    | none => rfl
    | some p => rfl
  case round =>
    obtain ⟨k, acc, last, hk, rfl, rfl, rfl, hbw, hal, hea⟩ := hrel
    by_cases hp : k < s.size
    · have hpz : (k : Int) < (s.size : Int) := by omega
      have hix := fun w => idxS s k w hp
      have hdr : s.data.toList.drop k = (s.data[k]'hp) :: s.data.toList.drop (k + 1) := by
        rw [List.drop_eq_getElem_cons (by rw [hlen]; exact hp)]
        simp
      rw [hdr, hgo] at hea
      obtain ⟨b, hb⟩ : ∃ b, s.data[k]'hp = b := ⟨_, rfl⟩
      rw [hb] at hea hix
      have hb256 := b.toNat_lt
      obtain ⟨c, hc⟩ : ∃ c : Int, (b.toNat : Int) = c := ⟨_, rfl⟩
      rw [hc] at hea hix
      have HE : Hid (hgo 46 s.data.toList = _) := hea
      clear hea hdr hb
      have c0 : 0 ≤ c := by omega
      have c1 : c ≤ 255 := by omega
      by_cases hU : 65 ≤ c ∧ c ≤ 90
      · obtain ⟨u1, u2⟩ := hU
        have hcv := conv_one wr (c + 32) (by omega) (by omega)
        go_wp2
        refine ⟨⟨k + 1, acc ++ [(c + 32).toNat.toUInt8], c + 32, by omega, by simp, congrArg Value.string (by simp [ByteArray.mk_append_mk]), rfl, hbw.alloc hbw.size _, by simp; omega, host_fin HE.out (c + 32) (by unfold small; rw [if_pos (by omega)]) (by unfold goodB; simp only [decide_eq_true_eq]; omega)⟩, by simp [intOf]; omega⟩
      by_cases hA : 97 ≤ c ∧ c ≤ 122
      · obtain ⟨u1, u2⟩ := hA
        have u3 : 65 ≤ c := by omega
        have u4 : 90 < c := by omega
        have hcv := conv_one wr c (by omega) (by omega)
        go_wp2
        refine ⟨⟨k + 1, acc ++ [(c).toNat.toUInt8], c, by omega, by simp, congrArg Value.string (by simp [ByteArray.mk_append_mk]), rfl, hbw.alloc hbw.size _, by simp; omega, host_fin HE.out (c) (by unfold small; rw [if_neg (by omega)]) (by unfold goodB; simp only [decide_eq_true_eq]; omega)⟩, by simp [intOf]; omega⟩
      by_cases hD : 48 ≤ c ∧ c ≤ 57
      · obtain ⟨u1, u2⟩ := hD
        have u3 : c < 65 := by omega
        have u4 : c < 97 := by omega
        have hcv := conv_one wr c (by omega) (by omega)
        go_wp2
        refine ⟨⟨k + 1, acc ++ [(c).toNat.toUInt8], c, by omega, by simp, congrArg Value.string (by simp [ByteArray.mk_append_mk]), rfl, hbw.alloc hbw.size _, by simp; omega, host_fin HE.out (c) (by unfold small; rw [if_neg (by omega)]) (by unfold goodB; simp only [decide_eq_true_eq]; omega)⟩, by simp [intOf]; omega⟩
      by_cases h45 : c = 45
      · subst h45
        have hcv := conv_one wr 45 (by omega) (by omega)
        by_cases hl : last = 46
        · subst hl
          have hR' : Hid (R = ([], 4)) := host_bad (k := k) (acc := acc) HE.out hR (show ¬ goodB 46 (small 45) = true by unfold goodB small; rw [if_neg (by omega)]; simp only [decide_eq_true_eq]; omega)
          go_wp2
          all_goals go_ret2
          all_goals rw [hR'.out]
          all_goals exact ⟨rfl, hbw⟩
        · have hl' : (last == 46) = false := by simpa using hl
          have hl2 : (last != 46) = true := by simpa using hl
          have hg : Hid (goodB last 45 = true) := (show goodB last 45 = true by simp [goodB, hl])
          go_wp2
          refine ⟨⟨k + 1, acc ++ [(45 : Int).toNat.toUInt8], 45, by omega, by simp, congrArg Value.string (by simp [ByteArray.mk_append_mk]), rfl, hbw.alloc hbw.size _, by simp; omega, host_fin HE.out (45) (by unfold small; rw [if_neg (by omega)]) hg.out⟩, by simp [intOf]; omega⟩
      by_cases h46 : c = 46
      · subst h46
        have hcv := conv_one wr 46 (by omega) (by omega)
        by_cases hl : last = 46
        · subst hl
          have hR' : Hid (R = ([], 4)) := host_bad (k := k) (acc := acc) HE.out hR (show ¬ goodB 46 (small 46) = true by unfold goodB small; rw [if_neg (by omega)]; simp only [decide_eq_true_eq]; omega)
          go_wp2
          all_goals go_ret2
          all_goals rw [hR'.out]
          all_goals exact ⟨rfl, hbw⟩
        · have hl' : (last == 46) = false := by simpa using hl
          by_cases hm : last = 45
          · subst hm
            have hR' : Hid (R = ([], 4)) := host_bad (k := k) (acc := acc) HE.out hR (show ¬ goodB 45 (small 46) = true by unfold goodB small; rw [if_neg (by omega)]; simp only [decide_eq_true_eq]; omega)
            go_wp2
            all_goals go_ret2
            all_goals rw [hR'.out]
            all_goals exact ⟨rfl, hbw⟩
          · have hm' : (last == 45) = false := by simpa using hm
            have hl2 : (last != 46) = true := by simpa using hl
            have hm2 : (last != 45) = true := by simpa using hm
            have hg : Hid (goodB last 46 = true) := (show goodB last 46 = true by simp [goodB, hl, hm])
            go_wp2
            refine ⟨⟨k + 1, acc ++ [(46 : Int).toNat.toUInt8], 46, by omega, by simp, congrArg Value.string (by simp [ByteArray.mk_append_mk]), rfl, hbw.alloc hbw.size _, by simp; omega, host_fin HE.out (46) (by unfold small; rw [if_neg (by omega)]) hg.out⟩, by simp [intOf]; omega⟩
      have q1 : (c == 45) = false := by simpa using h45
      have q2 : (c == 46) = false := by simpa using h46
      have hR' : Hid (R = ([], 4)) := host_bad (k := k) (acc := acc) HE.out hR (show ¬ goodB last (small c) = true by unfold goodB small; rw [if_neg (by omega)]; simp only [decide_eq_true_eq]; omega)
      by_cases r0 : c < 48
      · have f0 : c < 65 := by omega
        have f1 : c < 97 := by omega
        go_wp2
        go_ret2
        rw [hR'.out]
        exact ⟨rfl, hbw⟩
      by_cases r0 : c < 65
      · have f0 : 48 ≤ c := by omega
        have f1 : 57 < c := by omega
        have d57 : decide (c ≤ 57) = false := decide_eq_false (by omega)
        have f2 : c < 97 := by omega
        go_wp2
        go_ret2
        rw [hR'.out]
        exact ⟨rfl, hbw⟩
      by_cases r0 : c < 97
      · have f0 : 65 ≤ c := by omega
        have f1 : 90 < c := by omega
        have d90 : decide (c ≤ 90) = false := decide_eq_false (by omega)
        have f2 : 48 ≤ c := by omega
        have f3 : 57 < c := by omega
        have d57 : decide (c ≤ 57) = false := decide_eq_false (by omega)
        go_wp2
        go_ret2
        rw [hR'.out]
        exact ⟨rfl, hbw⟩
      have r1 : 97 ≤ c := by omega
      have f0 : 65 ≤ c := by omega
      have f1 : 90 < c := by omega
      have d90 : decide (c ≤ 90) = false := decide_eq_false (by omega)
      have f2 : 122 < c := by omega
      have d122 : decide (c ≤ 122) = false := decide_eq_false (by omega)
      have f3 : 48 ≤ c := by omega
      have f4 : 57 < c := by omega
      have d57 : decide (c ≤ 57) = false := decide_eq_false (by omega)
      clear r0
      go_wp2
      go_ret2
      rw [hR'.out]
      exact ⟨rfl, hbw⟩
    · have hkn : k = s.size := by omega
      rw [List.drop_of_length_le (by rw [hlen]; omega), hgo] at hea
      simp only [List.append_nil] at hea
      have hpz : (s.size : Int) ≤ (k : Int) := by omega
      rw [hea] at hR
      by_cases hl : last = 46
      · subst hl
        have hR' : Hid (R = ([], 4)) := by show R = ([], 4); rw [← hR]; rfl
        go_wp2
        go_ret2
        rw [hR'.out]
        exact ⟨rfl, hbw⟩
      by_cases hm : last = 45
      · subst hm
        have hR' : Hid (R = ([], 4)) := by show R = ([], 4); rw [← hR]; rfl
        go_wp2
        go_ret2
        rw [hR'.out]
        exact ⟨rfl, hbw⟩
      have hl' : (last == 46) = false := by simpa using hl
      have hm' : (last == 45) = false := by simpa using hm
      have hR' : Hid (R = (acc, 0)) := by show R = (acc, 0); rw [← hR, hostE, if_neg (by omega)]
      go_wp2
      go_ret2
      rw [hR'.out]
      exact ⟨rfl, hbw⟩
end Go.Proofs.YtikklhnkkfimfaaDoor
