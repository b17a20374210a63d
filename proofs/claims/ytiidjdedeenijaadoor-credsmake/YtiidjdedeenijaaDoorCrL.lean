/- CredsMake: the program's record of any user and password is the document's, or both refuse alike. -/
import Derived.Test.YtiidjdedeenijaaDoorCrN
import Derived.Test.YtiidjdedeenijaaDoorScK
import Derived.Test.YtiidjdedeenijaaDoorScVs
import Derived.Test.YtiidjdedeenijaaDoorNmFun
import Derived.Test.YtiidjdedeenijaaDoorNmRefL
import Derived.Test.YtiidjdedeenijaaDoorDrW
import Derived.BigQuiet
namespace Go.Proofs.YtiidjdedeenijaaDoor
open Go.RowKit

/-- What is wrong with a password. -/
def pwE (P : Tx) : Int := if 128 < P.length then 5 else if P = [] ∨ Lib.validD P = false then 4 else 0

theorem empty_tx {P : Tx} : ((⟨P.toArray⟩ : ByteArray).toList == []) = decide (P = []) := by
  rw [Lib.toList_data]
  cases P with
  | nil => rfl
  | cons x r => simp

set_option maxRecDepth 100000 in
set_option maxHeartbeats 800000 in
theorem checkPw_any (P : Tx) (w : World) (hP : P.length ≤ 1000000) (hT : Lib.Utf8Tabs 0 1 w) :
    Calls Tryd.prog 20 #[.string ⟨P.toArray⟩] w fun e w' => e = .returned (.int .i64 (pwE P)) ∧ Below w.heap.size w w' := by
  have hsz := size_tx P
  have hem := @empty_tx P
  have cV := validString_any P w hP hT
  have HE : Hid (pwE P = pwE P) := rfl
  obtain ⟨s, HS⟩ : ∃ s : ByteArray, Hid ((⟨P.toArray⟩ : ByteArray) = s) := ⟨_, rfl⟩
  rw [HS.out] at hsz hem cV ⊢
  by_cases h1 : 128 < P.length
  · have hE : pwE P = 5 := by unfold pwE; rw [if_pos h1]
    have hz : (128 : Int) < (s.size : Int) := by omega
    rw [hE]
    go_enter Tryd.func20, Tryd.ntmps20
    go_wp2
    go_ret
    exact ⟨rfl, Below.refl _ _⟩
  · have hz : ¬ (128 : Int) < (s.size : Int) := by omega
    by_cases h2 : P = []
    · have hE : pwE P = 4 := by unfold pwE; rw [if_neg h1, if_pos (Or.inl h2)]
      rw [hE]
      rw [decide_eq_true h2] at hem
      clear hE h2 h1
      go_enter Tryd.func20, Tryd.ntmps20
      go_wp2
      go_ret
      exact ⟨rfl, Below.refl _ _⟩
    · rw [decide_eq_false h2] at hem
      cases h3 : Lib.validD P with
      | true =>
        have hE : pwE P = 0 := by unfold pwE; rw [if_neg h1, if_neg (by rw [h3]; simp [h2])]
        rw [hE]
        rw [h3] at cV
        clear hE h2 h1
        go_enter Tryd.func20, Tryd.ntmps20
        go_wp2_with (go_at_call 43; refine cV.mono ?_; rintro e w1 ⟨rfl, hb1⟩)
        go_ret
        exact ⟨rfl, hb1⟩
      | false =>
        have hE : pwE P = 4 := by unfold pwE; rw [if_neg h1, if_pos (Or.inr h3)]
        rw [hE]
        rw [h3] at cV
        clear hE h2 h1
        go_enter Tryd.func20, Tryd.ntmps20
        go_wp2_with (go_at_call 43; refine cV.mono ?_; rintro e w1 ⟨rfl, hb1⟩)
        go_ret
        exact ⟨rfl, hb1⟩

/-- What a Make answers. -/
def Made (u : ByteArray) (sl : List Int) (z : Int) (A B : List Int) (E : Int) (w : World) : Ending → World → Prop := fun e w' =>
  ∃ a' n' c', e = .returned (.tuple #[.agg (recL (.string u) (.slice a' n' c') (.int .i64 z) A B).toArray, .int .i64 E]) ∧ Rd w' a' n' c' sl ∧ Below w.heap.size w w'
theorem made0 {E : Int} {w : World} {e : Ending} {w' : World} (h : e = .returned (.tuple #[.agg rec0.toArray, .int .i64 E]) ∧ Below w.heap.size w w') : Made ⟨#[]⟩ [] 0 Z32 Z32 E w e w' :=
  ⟨none, 0, 0, h.1, rd_nilK w', h.2⟩

theorem make_both (U P : Tx) (ss : List Int) (M : Int) (hU : U.length ≤ 100) (hP : P.length ≤ 200) : ∃ (u : ByteArray) (sl : List Int) (z : Int) (A B : List Int) (E : Int), A.length = 32 ∧ B.length = 32 ∧
    (∀ (a : Option Addr) (n c : Nat) (w : World), Rd w a n c ss → n ≤ 1000 → Kt w → Lib.Utf8Tabs 0 1 w → Calls Tryd.prog 7 #[.string ⟨U.toArray⟩, .string ⟨P.toArray⟩, .slice a n c, .int .i64 M] w (Made u sl z A B E w)) ∧
    (∀ (a : Option Addr) (n c : Nat) (w : World), Rd w a n c ss → n ≤ 1000 → Calls Tryd.prog 9 #[.string ⟨U.toArray⟩, .string ⟨P.toArray⟩, .slice a n c, .int .i64 M] w (Made u sl z A B E w)) := by
  obtain ⟨A, B, C, E, hA, hB, hC, cK, cR⟩ := keys_both P ss M (by omega)
  have hZ : Z32.length = 32 := by simp [Z32]
  have hPs := size_tx P
  obtain ⟨l, x, hl⟩ : ∃ l x, Nm.localN U = (l, x) := ⟨_, _, rfl⟩
  have cL : ∀ w, Lib.Utf8Tabs 0 1 w → AnsC 19 #[.string ⟨U.toArray⟩] w (.tuple #[.string ⟨l.toArray⟩, .int .i64 (x : Nat)]) := fun w hT u hb => by
    have := Nm.local_any ⟨U.toArray⟩ u (by rw [size_tx]; omega) (tabs_below hT hb)
    rw [show (⟨U.toArray⟩ : ByteArray).data.toList = U from by simp, hl] at this
    exact this
  have cL' : ∀ w, AnsC 24 #[.string ⟨U.toArray⟩] w (.tuple #[.string ⟨l.toArray⟩, .int .i64 (x : Nat)]) := fun w u hb => by
    have := Nm.refLocal_any ⟨U.toArray⟩ u (by rw [size_tx]; omega)
    rw [show (⟨U.toArray⟩ : ByteArray).data.toList = U from by simp, hl] at this
    exact this
  have cP : ∀ w, Lib.Utf8Tabs 0 1 w → AnsC 20 #[.string ⟨P.toArray⟩] w (.int .i64 (pwE P)) := fun w hT u hb => checkPw_any P u (by omega) (tabs_below hT hb)
  have cV : ∀ w, AnsC 25 #[.string ⟨P.toArray⟩] w (.bool (Lib.validD P)) := fun w u hb => by
    refine (Nm.refValid_any ⟨P.toArray⟩ u (by rw [size_tx]; omega)).mono ?_
    rw [Nm.vld_nums, show (⟨P.toArray⟩ : ByteArray).data.toList = P from by simp]
    rintro e w' ⟨rfl, rfl⟩
    exact ⟨rfl, Below.refl _ _⟩
  have hem := @empty_tx P
  by_cases hx : x = 0
  · subst hx
    by_cases h1 : 128 < P.length
    · have hE : pwE P = 5 := by unfold pwE; rw [if_pos h1]
      refine ⟨⟨#[]⟩, [], 0, Z32, Z32, 5, hZ, hZ, fun a n c w hR hn hK hT => ?_, fun a n c w hR hn => ?_⟩
      · exact (make_2 _ _ _ a n c M w 5 (cL w hT) (hE ▸ cP w hT) (by decide)).mono fun e w' h => made0 h
      · exact (rmake_2 _ _ _ a n c M w (cL' w) (by rw [hPs]; omega)).mono fun e w' h => made0 h
    · by_cases h2 : P = []
      · have hE : pwE P = 4 := by unfold pwE; rw [if_neg h1, if_pos (Or.inl h2)]
        refine ⟨⟨#[]⟩, [], 0, Z32, Z32, 4, hZ, hZ, fun a n c w hR hn hK hT => ?_, fun a n c w hR hn => ?_⟩
        · exact (make_2 _ _ _ a n c M w 4 (cL w hT) (hE ▸ cP w hT) (by decide)).mono fun e w' h => made0 h
        · exact (rmake_3 _ _ _ a n c M w (cL' w) (by rw [hPs]; omega) (by rw [hem, decide_eq_true h2])).mono fun e w' h => made0 h
      · rw [decide_eq_false h2] at hem
        cases h3 : Lib.validD P with
        | false =>
          have hE : pwE P = 4 := by unfold pwE; rw [if_neg h1, if_pos (Or.inr h3)]
          refine ⟨⟨#[]⟩, [], 0, Z32, Z32, 4, hZ, hZ, fun a n c w hR hn hK hT => ?_, fun a n c w hR hn => ?_⟩
          · exact (make_2 _ _ _ a n c M w 4 (cL w hT) (hE ▸ cP w hT) (by decide)).mono fun e w' h => made0 h
          · exact (rmake_4 _ _ _ a n c M w (cL' w) (by rw [hPs]; omega) hem (h3 ▸ cV w)).mono fun e w' h => made0 h
        | true =>
          have hE : pwE P = 0 := by unfold pwE; rw [if_neg h1, if_neg (by rw [h3]; simp [h2])]
          have cP0 : ∀ w, Lib.Utf8Tabs 0 1 w → AnsC 20 #[.string ⟨P.toArray⟩] w (.int .i64 0) := fun w hT => hE ▸ cP w hT
          have cV0 : ∀ w, AnsC 25 #[.string ⟨P.toArray⟩] w (.bool true) := fun w => h3 ▸ cV w
          by_cases h4 : 1 ≤ ss.length ∧ ss.length ≤ 32
          · by_cases h5 : E = 0
            · subst h5
              refine ⟨⟨l.toArray⟩, ss, M, A, B, 0, hA, hB, fun a n c w hR hn hK hT => ?_, fun a n c w hR hn => ?_⟩
              · refine (make_5 _ _ _ a n c M w ss hR (cL w hT) (cP0 w hT) (by rw [← hR.len]; exact decide_eq_true h4) A B hA hB (fun u hb => cK a n c u (hR.carry (Nat.le_refl _) hb) (by omega) (hK.below (Nat.le_refl _) hb))).mono ?_
                rintro e w' ⟨a', c', h⟩
                exact ⟨a', n, c', h⟩
              · have hl2 := hR.len
                refine (rmake_7 _ _ _ a n c M w ss hR (cL' w) (by rw [hPs]; omega) hem (cV0 w) (by omega) (by omega) A B C hA hB hC (fun u hb => cR a n c u (hR.carry (Nat.le_refl _) hb) (by omega))).mono ?_
                rintro e w' ⟨a', c', h⟩
                exact ⟨a', n, c', h⟩
            · refine ⟨⟨#[]⟩, [], 0, Z32, Z32, E, hZ, hZ, fun a n c w hR hn hK hT => ?_, fun a n c w hR hn => ?_⟩
              · exact (make_4 _ _ _ a n c M w E (cL w hT) (cP0 w hT) (by rw [← hR.len]; exact decide_eq_true h4) A B hA hB (fun u hb => cK a n c u (hR.carry (Nat.le_refl _) hb) (by omega) (hK.below (Nat.le_refl _) hb)) h5).mono fun e w' h => made0 h
              · have hl2 := hR.len
                exact (rmake_6 _ _ _ a n c M w E (cL' w) (by rw [hPs]; omega) hem (cV0 w) (by omega) (by omega) A B C hA hB hC (fun u hb => cR a n c u (hR.carry (Nat.le_refl _) hb) (by omega)) h5).mono fun e w' h => made0 h
          · refine ⟨⟨#[]⟩, [], 0, Z32, Z32, 1, hZ, hZ, fun a n c w hR hn hK hT => ?_, fun a n c w hR hn => ?_⟩
            · exact (make_3 _ _ _ a n c M w (cL w hT) (cP0 w hT) (by rw [← hR.len]; exact decide_eq_false h4)).mono fun e w' h => made0 h
            · have hl2 := hR.len
              exact (rmake_5 _ _ _ a n c M w (cL' w) (by rw [hPs]; omega) hem (cV0 w) (by omega)).mono fun e w' h => made0 h
  · refine ⟨⟨#[]⟩, [], 0, Z32, Z32, (x : Nat), hZ, hZ, fun a n c w hR hn hK hT => ?_, fun a n c w hR hn => ?_⟩
    · exact (make_1 _ _ _ a n c M w (x : Nat) (cL w hT) (by omega)).mono fun e w' h => made0 h
    · exact (rmake_1 _ _ _ a n c M w (x : Nat) (cL' w) (by omega)).mono fun e w' h => made0 h

end Go.Proofs.YtiidjdedeenijaaDoor
