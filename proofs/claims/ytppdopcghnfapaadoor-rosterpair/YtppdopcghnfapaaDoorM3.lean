/- Texts of one seat, one behind the other: NmDef, NmSmall, NmTake, Shelf, NmBuild, NmEach, NmPrep, NmBegun, NmFun, RoE. -/
import Derived.Lib.MapLaws
import Derived.Lib.ValidLaws
import Derived.Lib.Bytealg
import Derived.Test.YtppdopcghnfapaaDoorProg
import Derived.WalkKit
import Derived.WalkLawsBesides
import Derived.WalkSpells
import Derived.Below
import Derived.Shelf.Abstract
import Derived.Shelf.Small.Wraps
import Derived.Shelf.Strings.Builder2
import Derived.Shelf.Strings.BuilderRune
import Derived.Shelf.Strconv.Clone
import Derived.Shelf.Unicode.ValidAny
import Derived.BigCall
import Derived.Defers
import Derived.Recover
import Derived.Laws.Pointers
import Derived.Test.YtppdopcghnfapaaDoorM2
namespace Go.Proofs.YtppdopcghnfapaaDoor.Nm
open Go.Lib
def small (r : Int) : Int := if 65 ≤ r ∧ r ≤ 90 then r + 32 else r
def foldR (r : Int) : Int := if (65 ≤ r ∧ r ≤ 90) ∨ (192 ≤ r ∧ r ≤ 222 ∧ r ≠ 215) ∨ (913 ≤ r ∧ r ≤ 937 ∧ r ≠ 930) ∨ (1040 ≤ r ∧ r ≤ 1071) then r + 32 else r
def labelB (r : Int) : Bool := decide ((97 ≤ r ∧ r ≤ 122) ∨ (48 ≤ r ∧ r ≤ 57))
def letterB (r : Int) : Bool := decide ((97 ≤ r ∧ r ≤ 122) ∨ (48 ≤ r ∧ r ≤ 57) ∨ r = 46 ∨ r = 45 ∨ r = 95 ∨ (223 ≤ r ∧ r ≤ 255 ∧ r ≠ 247) ∨ (945 ≤ r ∧ r ≤ 969) ∨ (1072 ≤ r ∧ r ≤ 1103))
def stepL (_ r : Int) : Option Int := if letterB (foldR r) = true then some (foldR r) else none
def eachGo (step : Int → Int → Option Int) : Nat → Int → List UInt8 → Option (List UInt8 × Int)
 | 0, st, _ => some ([], st)
 | n + 1, st, l =>
  if l = [] then some ([], st)
  else match step st ((decodeL l).1 : Int) with
   | none => none
   | some r => match eachGo step n r (l.drop (decodeL l).2) with
    | none => none
    | some (bs, st') => some (encodeRune r ++ bs, st')
def each (step : Int → Int → Option Int) (st : Int) (l : List UInt8) : Option (List UInt8 × Int) := eachGo step l.length st l
theorem eachGo_fuel (step : Int → Int → Option Int) : ∀ (n m : Nat) (st : Int) (l : List UInt8), l.length ≤ n → l.length ≤ m → eachGo step n st l = eachGo step m st l
 | 0, 0, _, _, _, _ => rfl
 | 0, m + 1, st, l, h, _ => by
  have : l = [] := List.length_eq_zero_iff.1 (by omega)
  simp [eachGo, this]
 | n + 1, 0, st, l, _, h => by
  have : l = [] := List.length_eq_zero_iff.1 (by omega)
  simp [eachGo, this]
 | n + 1, m + 1, st, l, h1, h2 => by
  by_cases hl : l = []
  ·simp [eachGo, hl]
  ·have hw := decodeL_width l
   have hp : 0 < l.length := List.length_pos_iff.2 hl
   have e : ∀ r, eachGo step n r (l.drop (decodeL l).2) = eachGo step m r (l.drop (decodeL l).2) := fun r =>
    eachGo_fuel step n m r _ (by rw [List.length_drop]; omega) (by rw [List.length_drop]; omega)
   simp only [eachGo, hl, if_false, e]
theorem each_nil (step : Int → Int → Option Int) (st : Int) : each step st [] = some ([], st) := rfl
theorem each_step (step : Int → Int → Option Int) (st : Int) (l : List UInt8) (hl : l ≠ []) :
  each step st l = match step st ((decodeL l).1 : Int) with
   | none => none
   | some r => match each step r (l.drop (decodeL l).2) with
    | none => none
    | some (bs, st') => some (encodeRune r ++ bs, st') := by
 have hp : 0 < l.length := List.length_pos_iff.2 hl
 obtain ⟨n, hn⟩ : ∃ n, l.length = n + 1 := ⟨l.length - 1, by omega⟩
 have hw := decodeL_width l
 unfold each
 rw [hn]
 have e : ∀ r, eachGo step n r (l.drop (decodeL l).2) = eachGo step (l.drop (decodeL l).2).length r (l.drop (decodeL l).2) := fun r =>
  eachGo_fuel step _ _ r _ (by rw [List.length_drop]; omega) (Nat.le_refl _)
 simp only [eachGo, hl, if_false, e]
def prep (step : Int → Int → Option Int) (fin : Int → Bool) (l : List UInt8) : List UInt8 × Nat :=
 if 64 < l.length then ([], 5)
 else if l = [] ∨ validD l = false then ([], 4)
 else match each step 46 l with
  | none => ([], 4)
  | some (bs, st) => if fin st = true then (bs, 0) else ([], 4)
def localN (l : List UInt8) : List UInt8 × Nat := prep stepL (fun _ => true) l
theorem prep_cases (step : Int → Int → Option Int) (fin : Int → Bool) (l : List UInt8) : (prep step fin l).2 = 0 ∨ ((prep step fin l).1 = [] ∧ ((prep step fin l).2 = 4 ∨ (prep step fin l).2 = 5)) := by
 unfold prep
 split
 ·exact .inr ⟨rfl, .inr rfl⟩
 ·split
  ·exact .inr ⟨rfl, .inl rfl⟩
  ·split
   ·exact .inr ⟨rfl, .inl rfl⟩
   ·split
    ·exact .inl rfl
    ·exact .inr ⟨rfl, .inl rfl⟩
end Go.Proofs.YtppdopcghnfapaaDoor.Nm

namespace Go.Proofs.YtppdopcghnfapaaDoor.Nm
open Go.RowKit
theorem ret_bool {a b : Bool} (h : a = b) : Ending.returned (.bool a) = .returned (.bool b) := by rw [h]
theorem ret_int {k : IntKind} {a b : Int} (h : a = b) : Ending.returned (.int k a) = .returned (.int k b) := by rw [h]
theorem within_any (r a b : Int) (w : World) : Calls Tryd.prog 73 #[.int .i32 r, .int .i32 a, .int .i32 b] w fun e w' => e = .returned (.bool (decide (a ≤ r ∧ r ≤ b))) ∧ w' = w := by
 go_enter Tryd.func73, Tryd.ntmps73
 go_wp2
 all_goals go_ret
 all_goals (refine ⟨ret_bool ?_, rfl⟩; simp_all)
 all_goals omega
theorem ofLabel_any (r : Int) (w : World) : Calls Tryd.prog 75 #[.int .i32 r] w fun e w' => e = .returned (.bool (labelB r)) ∧ w' = w := by
 unfold labelB
 go_enter Tryd.func75, Tryd.ntmps75
 go_wp2_with (go_at_call 73; refine (within_any _ _ _ _).mono ?_; rintro e w1 ⟨rfl, rfl⟩)
 all_goals go_ret
 all_goals (refine ⟨ret_bool ?_, rfl⟩; simp_all)
theorem small_any (r : Int) (w : World) (h0 : 0 ≤ r) (h1 : r ≤ 1114111) : Calls Tryd.prog 74 #[.int .i32 r] w fun e w' => e = .returned (.int .i32 (small r)) ∧ w' = w := by
 unfold small
 by_cases hc : 65 ≤ r ∧ r ≤ 90
 ·have hd : decide (65 ≤ r ∧ r ≤ 90) = true := decide_eq_true hc
  go_enter Tryd.func74, Tryd.ntmps74
  go_wp2_with (go_at_call 73; refine (within_any _ _ _ _).mono ?_; rintro e w1 ⟨rfl, rfl⟩)
  all_goals go_ret
  all_goals (refine ⟨ret_int ?_, rfl⟩; simp_all)
 ·have hd : decide (65 ≤ r ∧ r ≤ 90) = false := decide_eq_false hc
  go_enter Tryd.func74, Tryd.ntmps74
  go_wp2_with (go_at_call 73; refine (within_any _ _ _ _).mono ?_; rintro e w1 ⟨rfl, rfl⟩)
  all_goals go_ret
  all_goals (refine ⟨ret_int ?_, rfl⟩; simp_all)
theorem folded_any (r : Int) (w : World) (h0 : 0 ≤ r) (h1 : r ≤ 1114111) : Calls Tryd.prog 60 #[.int .i32 r] w fun e w' => e = .returned (.int .i32 (foldR r)) ∧ w' = w := by
 by_cases ha : r = 215
 ·subst ha
  go_enter Tryd.func60, Tryd.ntmps60
  go_wp2
  go_ret
  exact ⟨rfl, rfl⟩
 by_cases hb : r = 930
 ·subst hb
  go_enter Tryd.func60, Tryd.ntmps60
  go_wp2
  go_ret
  exact ⟨rfl, rfl⟩
 by_cases hc : 192 ≤ r ∧ r ≤ 222
 ·have hd : decide (192 ≤ r ∧ r ≤ 222) = true := decide_eq_true hc
  have hf : foldR r = r + 32 := by unfold foldR; rw [if_pos (by omega)]
  go_enter Tryd.func60, Tryd.ntmps60
  go_wp2_with (go_at_call 73; refine (within_any _ _ _ _).mono ?_; rintro e w1 ⟨rfl, rfl⟩)
  all_goals go_ret
  all_goals (refine ⟨ret_int ?_, rfl⟩; simp_all)
 have hd : decide (192 ≤ r ∧ r ≤ 222) = false := decide_eq_false hc
 by_cases hc2 : 913 ≤ r ∧ r ≤ 937
 ·have hd2 : decide (913 ≤ r ∧ r ≤ 937) = true := decide_eq_true hc2
  have hf : foldR r = r + 32 := by unfold foldR; rw [if_pos (by omega)]
  go_enter Tryd.func60, Tryd.ntmps60
  go_wp2_with (go_at_call 73; refine (within_any _ _ _ _).mono ?_; rintro e w1 ⟨rfl, rfl⟩)
  all_goals go_ret
  all_goals (refine ⟨ret_int ?_, rfl⟩; simp_all)
 have hd2 : decide (913 ≤ r ∧ r ≤ 937) = false := decide_eq_false hc2
 by_cases hc3 : 1040 ≤ r ∧ r ≤ 1071
 ·have hd3 : decide (1040 ≤ r ∧ r ≤ 1071) = true := decide_eq_true hc3
  have hf : foldR r = r + 32 := by unfold foldR; rw [if_pos (by omega)]
  go_enter Tryd.func60, Tryd.ntmps60
  go_wp2_with (go_at_call 73; refine (within_any _ _ _ _).mono ?_; rintro e w1 ⟨rfl, rfl⟩)
  all_goals go_ret
  all_goals (refine ⟨ret_int ?_, rfl⟩; simp_all)
 have hd3 : decide (1040 ≤ r ∧ r ≤ 1071) = false := decide_eq_false hc3
 have qa : (r == 215) = false := by simpa using ha
 have qb : (r == 930) = false := by simpa using hb
 have hf : foldR r = small r := by
  unfold foldR small
  by_cases hs : 65 ≤ r ∧ r ≤ 90
  ·rw [if_pos hs, if_pos (.inl hs)]
  ·rw [if_neg hs, if_neg (by omega)]
 go_enter Tryd.func60, Tryd.ntmps60
 go_wp2_with (first
  | (go_at_call 73; refine (within_any _ _ _ _).mono ?_; rintro e w1 ⟨rfl, rfl⟩)
  | (go_at_call 74; refine (small_any _ _ h0 h1).mono ?_; rintro e w1 ⟨rfl, rfl⟩))
 all_goals go_ret
 all_goals (refine ⟨ret_int ?_, rfl⟩; simp_all)
theorem ofLocal_any (r : Int) (w : World) : Calls Tryd.prog 61 #[.int .i32 r] w fun e w' => e = .returned (.bool (letterB r)) ∧ w' = w := by
 by_cases ha : r = 46
 ·subst ha
  go_enter Tryd.func61, Tryd.ntmps61
  go_wp2
  go_ret
  exact ⟨rfl, rfl⟩
 by_cases hb : r = 45
 ·subst hb
  go_enter Tryd.func61, Tryd.ntmps61
  go_wp2
  go_ret
  exact ⟨rfl, rfl⟩
 by_cases hc : r = 95
 ·subst hc
  go_enter Tryd.func61, Tryd.ntmps61
  go_wp2
  go_ret
  exact ⟨rfl, rfl⟩
 by_cases hd : r = 247
 ·subst hd
  go_enter Tryd.func61, Tryd.ntmps61
  go_wp2
  go_ret
  exact ⟨rfl, rfl⟩
 have qa : (r == 46) = false := by simpa using ha
 have qb : (r == 45) = false := by simpa using hb
 have qc : (r == 95) = false := by simpa using hc
 have qd : (r == 247) = false := by simpa using hd
 have hl : letterB r = (labelB r || decide (223 ≤ r ∧ r ≤ 255) || decide (945 ≤ r ∧ r ≤ 969) || decide (1072 ≤ r ∧ r ≤ 1103)) := by
  unfold letterB labelB
  rw [← Bool.decide_or, ← Bool.decide_or, ← Bool.decide_or]
  exact decide_eq_decide.2 (by omega)
 rw [hl]
 clear hl
 generalize hL : labelB r = L
 cases L with
 | true =>
  go_enter Tryd.func61, Tryd.ntmps61
  go_wp2_with (first
   | (go_at_call 75; refine (ofLabel_any _ _).mono ?_; rw [hL]; rintro e w1 ⟨rfl, rfl⟩)
   | (go_at_call 73; refine (within_any _ _ _ _).mono ?_; rintro e w1 ⟨rfl, rfl⟩))
  go_ret
  exact ⟨rfl, rfl⟩
 | false =>
  generalize hA : decide (223 ≤ r ∧ r ≤ 255) = A
  generalize hB : decide (945 ≤ r ∧ r ≤ 969) = B
  generalize hC : decide (1072 ≤ r ∧ r ≤ 1103) = C
  cases A <;> cases B <;> cases C
  all_goals
   go_enter Tryd.func61, Tryd.ntmps61
   go_wp2_with (first
    | (go_at_call 75; refine (ofLabel_any _ _).mono ?_; rw [hL]; rintro e w1 ⟨rfl, rfl⟩)
    | (go_at_call 73; refine (within_any _ _ _ _).mono ?_; (first | rw [hA] | rw [hB] | rw [hC]); rintro e w1 ⟨rfl, rfl⟩))
   go_ret
   exact ⟨rfl, rfl⟩
def gaveUp (n : Int) : List PanicEntry := [{ v := .iface 103 (.agg #[.int .i64 n]), recovered := false }]
theorem giveUp_any (n : Int) (w : World) : Calls Tryd.prog 62 #[.int .i64 n] w fun e w' => e = .panicked (gaveUp n) ∧ w' = w := by
 go_enter Tryd.func62, Tryd.ntmps62
 go_wp2
 exact ⟨rfl, rfl, rfl⟩
end Go.Proofs.YtppdopcghnfapaaDoor.Nm

namespace Go.Proofs.YtppdopcghnfapaaDoor.Nm
open Go.RowKit
structure Aside (B0 B : Nat) (w w' : World) : Prop where
  below : Below B0 w w'
  size : w'.heap.size = w.heap.size
  above : ∀ k, B ≤ k → w'.heap[k]? = w.heap[k]?
theorem Aside.refl (B0 B : Nat) (w : World) : Aside B0 B w w := ⟨Below.refl _ _, rfl, fun _ _ => rfl⟩
structure Taker (k : Nat) (caps : Array Value) (step : Int → Int → Option Int) (B0 B : Nat) (J : Int → World → Prop) : Prop where
  ent : ∀ args w, (callFunc k args).run Tryd.prog w = .ok (.enter k args) w
  call : ∀ st r W, J st W → 0 ≤ r → r ≤ 1114111 → Calls Tryd.prog k (#[.int .i32 r] ++ caps) W fun e W' =>
    (step st r = none ∧ e = .panicked (gaveUp 4) ∧ Below B0 W W') ∨ ∃ r', step st r = some r' ∧ e = .returned (.int .i32 r') ∧ J r' W' ∧ Aside B0 B W W'
  keep : ∀ st W W', J st W → Below B W W' → J st W'
  lim : ∀ st r r', 0 ≤ r → r ≤ 1114111 → step st r = some r' → 0 ≤ r' ∧ r' ≤ 1114200
theorem foldR_lim (r : Int) (h0 : 0 ≤ r) (h1 : r ≤ 1114111) : 0 ≤ foldR r ∧ foldR r ≤ 1114200 := by unfold foldR; split <;> omega
theorem stepL_lim (st r r' : Int) (h0 : 0 ≤ r) (h1 : r ≤ 1114111) (h : stepL st r = some r') : 0 ≤ r' ∧ r' ≤ 1114200 := by
  unfold stepL at h; split at h
  · cases h; exact foldR_lim r h0 h1
  · cases h
theorem takeL_any (st r : Int) (w : World) (h0 : 0 ≤ r) (h1 : r ≤ 1114111) : Calls Tryd.prog 59 #[.int .i32 r] w fun e w' =>
    (stepL st r = none ∧ e = .panicked (gaveUp 4) ∧ w' = w) ∨ ∃ r', stepL st r = some r' ∧ e = .returned (.int .i32 r') ∧ w' = w := by
  unfold stepL
  generalize hL : letterB (foldR r) = L
  cases L with
  | true =>
    rw [if_pos rfl]
    go_enter Tryd.func59, Tryd.ntmps59
    go_wp2_with (first
      | (go_at_call 60; refine (folded_any _ _ h0 h1).mono ?_; rintro e w1 ⟨rfl, rfl⟩)
      | (go_at_call 61; refine (ofLocal_any _ _).mono ?_; rw [hL]; rintro e w1 ⟨rfl, rfl⟩))
    go_ret
    exact .inr ⟨_, rfl, rfl, rfl⟩
  | false =>
    rw [if_neg (by simp)]
    go_enter Tryd.func59, Tryd.ntmps59
    go_wp2_with (first
      | (go_at_call 60; refine (folded_any _ _ h0 h1).mono ?_; rintro e w1 ⟨rfl, rfl⟩)
      | (go_at_call 61; refine (ofLocal_any _ _).mono ?_; rw [hL]; rintro e w1 ⟨rfl, rfl⟩)
      | (go_at_call 62; refine (giveUp_any _ _).mono ?_; rintro e w1 ⟨rfl, rfl⟩))
    exact ⟨rfl, .inl ⟨trivial, rfl, rfl⟩⟩
theorem takerL (B : Nat) : Taker 59 #[] stepL B B (fun _ _ => True) :=
  ⟨enters_of Tryd.func59 (by kernel_rfl) rfl,
   fun st r W _ h0 h1 => (takeL_any st r W h0 h1).mono fun _ _ h => by
     rcases h with ⟨a, b, rfl⟩ | ⟨r', a, b, rfl⟩
     · exact .inl ⟨a, b, Below.refl _ _⟩
     · exact .inr ⟨r', a, b, trivial, Aside.refl _ _ _⟩,
   fun _ _ _ _ _ => trivial, stepL_lim⟩
end Go.Proofs.YtppdopcghnfapaaDoor.Nm

namespace Go.Proofs
open Go.Shelf
def Tryd.lays169_ren : Go.Shelf.Ren := ⟨fun | 169 => 72 | n => n, fun | 70 => 111 | 9 => 9 | 0 => 0 | 72 => 114 | 37 => 112 | 127 => 120 | 3 => 3 | 5 => 5 | n => n, fun | n => n⟩
theorem Tryd.lays169 : Go.Proofs.Lays.n169 Tryd.prog Tryd.lays169_ren := {
 mixed := by kernel_rfl
 f169 := Tryd.func72.trans (congrArg some (by kernel_rfl))
 t0 := Tryd.underlying0
 a0 := Tryd.isAgg0
 z0 := Tryd.sizeOf0
 v0 := Tryd.zeroValue0
 t3 := Tryd.underlying3
 a3 := Tryd.isAgg3
 z3 := Tryd.sizeOf3
 v3 := Tryd.zeroValue3
 t9 := Tryd.underlying9
 a9 := Tryd.isAgg9
 z9 := Tryd.sizeOf9
 v9 := Tryd.zeroValue9
 t37 := Tryd.underlying112
 a37 := Tryd.isAgg112
 z37 := Tryd.sizeOf112
 v37 := Tryd.zeroValue112
 t70 := Tryd.underlying111
 a70 := Tryd.isAgg111
 z70 := Tryd.sizeOf111
 v70 := Tryd.zeroValue111
 t72 := Tryd.underlying114
 a72 := Tryd.isAgg114
 z72 := Tryd.sizeOf114
 v72 := Tryd.zeroValue114
 t127 := Tryd.underlying120
 a127 := Tryd.isAgg120
 z127 := Tryd.sizeOf120
 v127 := Tryd.zeroValue120 }
def Tryd.lays242_ren : Go.Shelf.Ren := ⟨fun | 242 => 78 | 278 => 80 | n => n, fun | 37 => 112 | 21 => 21 | 51 => 130 | 4 => 4 | 5 => 5 | 72 => 114 | 46 => 126 | n => n, fun | n => n⟩
theorem Tryd.lays242 : Go.Proofs.Lays.n242 Tryd.prog Tryd.lays242_ren := {
 mixed := by kernel_rfl
 f242 := Tryd.func78.trans (congrArg some (by kernel_rfl))
 f278 := Tryd.func80.trans (congrArg some (by kernel_rfl))
 t4 := Tryd.underlying4
 a4 := Tryd.isAgg4
 z4 := Tryd.sizeOf4
 v4 := Tryd.zeroValue4
 t5 := Tryd.underlying5
 a5 := Tryd.isAgg5
 z5 := Tryd.sizeOf5
 v5 := Tryd.zeroValue5
 t21 := Tryd.underlying21
 a21 := Tryd.isAgg21
 z21 := Tryd.sizeOf21
 v21 := Tryd.zeroValue21
 t37 := Tryd.underlying112
 a37 := Tryd.isAgg112
 z37 := Tryd.sizeOf112
 v37 := Tryd.zeroValue112
 t46 := Tryd.underlying126
 a46 := Tryd.isAgg126
 z46 := Tryd.sizeOf126
 v46 := Tryd.zeroValue126
 t51 := Tryd.underlying130
 a51 := Tryd.isAgg130
 z51 := Tryd.sizeOf130
 v51 := Tryd.zeroValue130 }
def Tryd.lays196_ren : Go.Shelf.Ren := ⟨fun | 196 => 70 | 259 => 76 | n => n, fun | 9 => 9 | 4 => 4 | 3 => 3 | 5 => 5 | 12 => 12 | 119 => 122 | 0 => 0 | 46 => 126 | 139 => 125 | 138 => 124 | 53 => 34 | n => n, fun | 3 => 0 | 4 => 1 | n => n⟩
theorem Tryd.lays196 : Go.Proofs.Lays.n196 Tryd.prog Tryd.lays196_ren := {
 mixed := by kernel_rfl
 f196 := Tryd.func70.trans (congrArg some (by kernel_rfl))
 f259 := Tryd.func76.trans (congrArg some (by kernel_rfl))
 t0 := Tryd.underlying0
 a0 := Tryd.isAgg0
 z0 := Tryd.sizeOf0
 v0 := Tryd.zeroValue0
 t3 := Tryd.underlying3
 a3 := Tryd.isAgg3
 z3 := Tryd.sizeOf3
 v3 := Tryd.zeroValue3
 t4 := Tryd.underlying4
 a4 := Tryd.isAgg4
 z4 := Tryd.sizeOf4
 v4 := Tryd.zeroValue4
 t5 := Tryd.underlying5
 a5 := Tryd.isAgg5
 z5 := Tryd.sizeOf5
 v5 := Tryd.zeroValue5
 t9 := Tryd.underlying9
 a9 := Tryd.isAgg9
 z9 := Tryd.sizeOf9
 v9 := Tryd.zeroValue9
 t12 := Tryd.underlying12
 a12 := Tryd.isAgg12
 z12 := Tryd.sizeOf12
 v12 := Tryd.zeroValue12
 t46 := Tryd.underlying126
 a46 := Tryd.isAgg126
 z46 := Tryd.sizeOf126
 v46 := Tryd.zeroValue126
 t53 := Tryd.underlying34
 a53 := Tryd.isAgg34
 z53 := Tryd.sizeOf34
 v53 := Tryd.zeroValue34
 t119 := Tryd.underlying122
 a119 := Tryd.isAgg122
 z119 := Tryd.sizeOf122
 t138 := Tryd.underlying124
 a138 := Tryd.isAgg124
 z138 := Tryd.sizeOf124
 v138 := Tryd.zeroValue124
 t139 := Tryd.underlying125
 a139 := Tryd.isAgg125
 z139 := Tryd.sizeOf125
 v139 := Tryd.zeroValue125
 g3 := by kernel_rfl
 g4 := by kernel_rfl }
def Tryd.laysM316_ren : Go.Shelf.Ren := ⟨fun | 316 => 67 | n => n, fun | 9 => 9 | 3 => 3 | 4 => 4 | 37 => 112 | 0 => 0 | 127 => 120 | 5 => 5 | n => n, fun | n => n⟩
theorem Tryd.laysM316 : Go.Proofs.LaysM.n316 Tryd.prog Tryd.laysM316_ren := {
 mixed := by kernel_rfl
 f316 := Tryd.func67.trans (congrArg some (by kernel_rfl))
 t0 := Tryd.underlying0
 a0 := Tryd.isAgg0
 z0 := Tryd.sizeOf0
 v0 := Tryd.zeroValue0
 t3 := Tryd.underlying3
 a3 := Tryd.isAgg3
 z3 := Tryd.sizeOf3
 v3 := Tryd.zeroValue3
 t4 := Tryd.underlying4
 a4 := Tryd.isAgg4
 z4 := Tryd.sizeOf4
 v4 := Tryd.zeroValue4
 t9 := Tryd.underlying9
 a9 := Tryd.isAgg9
 z9 := Tryd.sizeOf9
 v9 := Tryd.zeroValue9
 t37 := Tryd.underlying112
 a37 := Tryd.isAgg112
 z37 := Tryd.sizeOf112
 v37 := Tryd.zeroValue112
 t127 := Tryd.underlying120
 a127 := Tryd.isAgg120
 z127 := Tryd.sizeOf120
 v127 := Tryd.zeroValue120
 t5 := Tryd.underlying5
 a5 := Tryd.isAgg5
 z5 := Tryd.sizeOf5
 v5 := Tryd.zeroValue5
 i0 := by kernel_rfl
 i3 := by kernel_rfl
 i4 := by kernel_rfl
 i5 := by kernel_rfl
 i9 := by kernel_rfl
 i37 := by kernel_rfl
 i127 := by kernel_rfl }
end Go.Proofs

set_option maxRecDepth 100000
namespace Go.Proofs.YtppdopcghnfapaaDoor.Nm
open Go.RowKit Go.Shelf
theorem extra242 : Builder.Extra Tryd.prog Tryd.lays242_ren := {
 sizeBuilder := by kernel_rfl
 liesBuilder := by kernel_rfl
 t5 := Tryd.underlying5
 a5 := Tryd.isAgg5
 z5 := Tryd.sizeOf5
 v5 := Tryd.zeroValue5
 infoByte := by kernel_rfl
 cellsByte := by kernel_rfl
 sizeByte := by kernel_rfl
 neB5 := by decide }
theorem extra169 : Builder.Extra Tryd.prog Tryd.lays169_ren := {
 sizeBuilder := by kernel_rfl
 liesBuilder := by kernel_rfl
 t5 := Tryd.underlying5
 a5 := Tryd.isAgg5
 z5 := Tryd.sizeOf5
 v5 := Tryd.zeroValue5
 infoByte := by kernel_rfl
 cellsByte := by kernel_rfl
 sizeByte := by kernel_rfl
 neB5 := by decide }
theorem bString_any (B b : Nat) (l : List UInt8) (w : World) (h : Lib.IsBuilderF 114 5 B b (Lib.byteCells l) w) (hBw : B ≤ w.heap.size) :
  Calls Tryd.prog 72 #[.pointer (some ⟨b, 0, none⟩)] w fun e w' => e = .returned (.string ⟨l.toArray⟩) ∧ Below B w w' :=
 (Any.Builder_String_any_k Tryd.lays169 extra169 B b l w h hBw).mono fun _ _ h => ⟨h.1, h.2.2.1⟩
theorem validString_any (s : ByteArray) (w : World) (hs : s.size ≤ 9223372036854775807) (hT : Lib.Utf8Tabs 0 1 w) :
  Calls Tryd.prog 70 #[.string s] w fun e w' => e = .returned (.bool (Lib.validD s.data.toList)) ∧ Below w.heap.size w w' := Any.utf8_ValidString Tryd.lays196 s w hs hT
theorem appendRune_any (B : Nat) (v : Value) (n : Nat) (xs : List Value) (r : Int) (hr0 : -2147483648 ≤ r) (hr1 : r ≤ 2147483647) (w : World) (hown : w.ownsRowF B 5 1 v n xs) (hlen : n + 4 ≤ 140737488355328) (hBw : B ≤ w.heap.size) :
  Calls Tryd.prog 78 #[v, .int .i32 r] w fun e w' => ∃ v', e = .returned v' ∧ w'.ownsRowF B 5 1 v' (n + (Lib.runeCells r).length) (xs ++ Lib.runeCells r) ∧ ∃ o, (w.alloc o).grownBy w' v.ownBlock :=
 Any.utf8_AppendRune_own Tryd.lays242 extra242 B v n xs r hr0 hr1 w hown hlen hBw
theorem copyCheck_new (b : Nat) (w : World) (h0 : w.cell? ⟨b, 0, none⟩ = some (.pointer none)) (hsh : w.shape? b = some (114, 2)) (hfz : w.frozen? ⟨b, 0, none⟩ = false) :
  Calls Tryd.prog 77 #[.pointer (some ⟨b, 0, none⟩)] w fun e w' => e = .returned (.tuple #[]) ∧ w' = w.setCell ⟨b, 0, none⟩ (.pointer (some ⟨b, 0, none⟩)) := by
 obtain ⟨j, hj, hjs⟩ := Option.map_eq_some_iff.1 extra242.sizeBuilder
 go_enter Tryd.func77, Tryd.ntmps77
 go_wp2
 rw [Lib.run_to_unsafe w ⟨b, 0, none⟩ Tryd.underlying111 Tryd.underlying128 hj (by rw [hjs]; decide) hsh (Nat.zero_lt_succ 1)]
 simp only [Result.andThen]
 rw [Oper.upon_value]
 go_wp2
 rw [run_callFunc_extern Tryd.func79 (by kernel_rfl) (by kernel_rfl) (by kernel_rfl) (e := Extern.AbiNoEscape.same) (by kernel_rfl), Lib.run_noEscape]
 simp only [Result.andThen]
 rw [Oper.upon_value]
 go_wp2
 rw [Lib.run_from_unsafe w ⟨b, 0, none⟩ Tryd.underlying128 Tryd.underlying111 hj hsh extra242.liesBuilder]
 simp only [Result.andThen]
 rw [Oper.upon_value]
 go_wp2
 go_end0
 exact ⟨rfl, rfl⟩
theorem copyCheck_old (b : Nat) (w : World) (h0 : w.cell? ⟨b, 0, none⟩ = some (.pointer (some ⟨b, 0, none⟩))) :
  Calls Tryd.prog 77 #[.pointer (some ⟨b, 0, none⟩)] w fun e w' => e = .returned (.tuple #[]) ∧ w' = w := by
 obtain ⟨j, hj, _⟩ := Option.map_eq_some_iff.1 extra242.sizeBuilder
 go_enter Tryd.func77, Tryd.ntmps77
 go_wp2
 rw [Lib.run_neq_ptr_same w _ Tryd.underlying111 hj]
 go_wp2
 go_end0
 exact ⟨rfl, rfl⟩
theorem copyCheck_any (B b : Nat) (bs : List Value) (w : World) (h : Lib.IsBuilderF 114 5 B b bs w) :
  Calls Tryd.prog 77 #[.pointer (some ⟨b, 0, none⟩)] w fun e w' => e = .returned (.tuple #[]) ∧ Lib.BuilderAtF 114 5 B b (.pointer (some ⟨b, 0, none⟩)) bs w' ∧ Below B w w' ∧ Lib.OthersKept 5 (some b) w w' := by
 rcases h with h | h
 ·exact (copyCheck_new b w h.cell0 h.shape h.frozen0).mono fun e w' ⟨h1, h2⟩ => by
   subst h2
   exact ⟨h1, h.used _, (Below.refl B w).setCell (p := ⟨b, 0, none⟩) h.1 _, (Lib.OthersKept.refl _ _ w).setCell ⟨b, 0, none⟩ rfl _⟩
 ·exact (copyCheck_old b w h.cell0).mono fun e w' ⟨h1, h2⟩ => by
   subst h2
   exact ⟨h1, h, Below.refl B _, Lib.OthersKept.refl _ _ _⟩
set_option maxHeartbeats 4000000 in
set_option maxRecDepth 100000 in
theorem writeRune_any (B b : Nat) (bs : List Value) (r : Int) (hr0 : -2147483648 ≤ r) (hr1 : r ≤ 2147483647) (w : World) (h : Lib.IsBuilderF 114 5 B b bs w) (hlen : bs.length + 4 ≤ 140737488355328) (hBw : B ≤ w.heap.size) :
  Calls Tryd.prog 71 #[.pointer (some ⟨b, 0, none⟩), .int .i32 r] w fun e w' => (∃ n : Int, e = .returned (.tuple #[.int .i64 n, .nilIface])) ∧ Lib.IsBuilderF 114 5 B b (bs ++ Lib.runeCells r) w' ∧ Below B w w' ∧ Lib.OthersKept 5 (some b) w w' := by
 have hk4 := Lib.runeCells_le r
 go_enter Tryd.func71, Tryd.ntmps71
 go_wp2_with (go_at_call 77; refine (copyCheck_any B b bs _ h).mono ?_)
 rintro e w1 ⟨rfl, ⟨hB, v, hbk, hown, hne⟩, hb1, hk1⟩
 have hz1 := hb1.size
 obtain ⟨ao, cap, rfl⟩ : ∃ ao cap, v = .slice ao bs.length cap := by
  rcases hown.2 with ⟨hv, h0⟩ | ⟨g, cap, cur, fz, hv, _⟩
  ·exact ⟨none, 0, by rw [hv, h0]⟩
  ·exact ⟨_, _, hv⟩
 have c1 : w1.cell? ⟨b, 1, none⟩ = some (.slice ao bs.length cap) := by rw [Lib.cell_of_heap hbk]; rfl
 go_wp2_with (go_at_call 78; refine (appendRune_any B _ bs.length bs r hr0 hr1 _ hown hlen (by omega)).mono ?_)
 rintro e w2 ⟨v', rfl, hown', o, hgrow⟩
 have hlt : b < w1.heap.size := (Array.getElem?_eq_some_iff.1 hbk).1
 have hb2 : w2.heap[b]? = some (.cells #[.pointer (some ⟨b, 0, none⟩), .slice ao bs.length cap] 114 (0, 0)) := by
  rw [hgrow.block b (by simp; omega) (fun e => hne e.symm), Lib.alloc_old w1 _ b hlt]
  exact hbk
 have d1 : w2.cell? ⟨b, 1, none⟩ = some (.slice ao bs.length cap) := by rw [Lib.cell_of_heap hb2]; rfl
 have f1 : w2.frozen? ⟨b, 1, none⟩ = false := Lib.frozen_of_heap hb2 1
 obtain ⟨g, cap', rfl⟩ : ∃ g cap', v' = .slice (some ⟨g, 0, none⟩) (bs.length + (Lib.runeCells r).length) cap' := by
  rcases hown'.2 with ⟨_, h0⟩ | ⟨g, cap', cur, fz, hv, _⟩
  ·omega
  ·exact ⟨g, cap', hv⟩
 go_wp2
 go_ret2
 refine ⟨⟨_, rfl⟩, Or.inr ?_, ?_, ((hk1.alloc _).grown hgrow (Lib.ownsRowF_kind (hown.alloc _))).setCell ⟨b, 1, none⟩ rfl _⟩
 ·exact Lib.BuilderAtF.put (T := 114) (e := 5) hB hb2 (bs' := bs ++ Lib.runeCells r) (by simpa using hown') (by decide)
 ·exact ((hb1.alloc (by omega) _).grown hgrow (by simp; omega) (fun k hk => (hown.lt k hk).1)).setCell (p := ⟨b, 1, none⟩) hB _
end Go.Proofs.YtppdopcghnfapaaDoor.Nm

namespace Go.Proofs.YtppdopcghnfapaaDoor.Nm
open Go.RowKit
def ofEach : Option (List UInt8 × Int) → Except Nat (List UInt8 × Int)
 | none => .error 4
 | some p => .ok p
def eachX (step : Int → Int → Option Int) (l : List UInt8) : Except Nat (List UInt8 × Int) :=
 if 64 < l.length then .error 5
 else if l = [] ∨ Lib.validD l = false then .error 4
 else ofEach (each step 46 l)
def Ended (J : Int → World → Prop) : Except Nat (List UInt8 × Int) → Ending → World → Prop
 | .error n, e, _ => e = .panicked (gaveUp n)
 | .ok (bs, st), e, w => e = .returned (.string ⟨bs.toArray⟩) ∧ J st w
def finX (fin : Int → Bool) : Except Nat (List UInt8 × Int) → List UInt8 × Nat
 | .error n => ([], n)
 | .ok (bs, st) => if fin st = true then (bs, 0) else ([], 4)
theorem prep_eachX (step : Int → Int → Option Int) (fin : Int → Bool) (l : List UInt8) : prep step fin l = finX fin (eachX step l) := by
 unfold prep eachX
 split
 ·rfl
 ·split
  ·rfl
  ·cases each step 46 l <;> rfl
theorem bAt_aside {T e : TypeId} {B b B0 B1 : Nat} {p : Value} {bs : List Value} {w w' : World} (hB1 : B1 ≤ B) (h : Lib.BuilderAtF T e B b p bs w) (k : Aside B0 B1 w w') : Lib.BuilderAtF T e B b p bs w' := by
 obtain ⟨hB, v, hb, hown, hne⟩ := h
 refine ⟨hB, v, (k.above b (by omega)).trans hb, ⟨hown.1, ?_⟩, hne⟩
 rcases hown.2 with hn | ⟨g, cap, cur, fz, hv, hbg, hg, rest⟩
 ·exact .inl hn
 ·exact .inr ⟨g, cap, cur, fz, hv, hbg, (k.above g (by omega)).trans hg, rest⟩
theorem isB_aside {T e : TypeId} {B b B0 B1 : Nat} {bs : List Value} {w w' : World} (hB1 : B1 ≤ B) (h : Lib.IsBuilderF T e B b bs w) (k : Aside B0 B1 w w') : Lib.IsBuilderF T e B b bs w' :=
 h.elim (fun x => .inl (bAt_aside hB1 x k)) (fun x => .inr (bAt_aside hB1 x k))
theorem dec_width (s : ByteArray) (pos : Nat) : 1 ≤ (Utf8.decode s pos).2 := by rw [← Lib.decodeL_drop]; exact Lib.decodeL_width _
theorem dec_rune (s : ByteArray) (pos : Nat) : (Utf8.decode s pos).1 ≤ 1114111 := by rw [← Lib.decodeL_drop]; exact Lib.decodeL_rune _
set_option maxHeartbeats 4000000 in
set_option maxRecDepth 1000000 in
theorem each_any (k : Nat) (caps : Array Value) (step : Int → Int → Option Int) (B0 : Nat) (J : Int → World → Prop) (s : ByteArray) (w : World)
  (hs : s.size ≤ 9223372036854775807) (hB : B0 ≤ w.heap.size) (hK : Taker k caps step B0 w.heap.size J) (h46 : J 46 w) (hT : Lib.Utf8Tabs 0 1 w) :
  Calls Tryd.prog 58 #[.string s, .func (.func k) #[] caps] w fun e w' => Ended J (eachX step s.data.toList) e w' ∧ Below B0 w w' := by
 have hlen : s.data.toList.length = s.size := by simp
 unfold eachX
 rw [hlen]
 by_cases h64 : 64 < s.size
 ·rw [if_pos h64]
  have h64' : (64 : Int) < (s.size : Int) := by omega
  go_enter Tryd.func58, Tryd.ntmps58
  go_wp2_with (go_at_call 62; refine (giveUp_any _ _).mono ?_; rintro e w1 ⟨rfl, rfl⟩)
  exact ⟨rfl, rfl, Below.refl _ _⟩
 rw [if_neg h64]
 have h64' : ¬ (64 : Int) < (s.size : Int) := by omega
 by_cases h0 : s.data.toList = []
 ·rw [if_pos (.inl h0)]
  have hemp : s.toList.isEmpty = true := by rw [Lib.toList_data, h0]; rfl
  go_enter Tryd.func58, Tryd.ntmps58
  go_wp2_with (go_at_call 62; refine (giveUp_any _ _).mono ?_; rintro e w1 ⟨rfl, rfl⟩)
  exact ⟨rfl, rfl, Below.refl _ _⟩
 have hemp : s.toList.isEmpty = false := by
  rw [Lib.toList_data]
  cases h : s.data.toList with
  | nil => exact absurd h h0
  | cons b t => rfl
 have cV := validString_any s w hs hT
 generalize hV : Lib.validD s.data.toList = V at cV ⊢
 cases V with
 | false =>
  rw [if_pos (.inr rfl)]
  go_enter Tryd.func58, Tryd.ntmps58
  go_wp2_with (first
   | (go_at_call 70; refine cV.mono ?_; rintro e w0 ⟨rfl, hb0⟩)
   | (go_at_call 62; refine (giveUp_any _ _).mono ?_; rintro e w1 ⟨rfl, rfl⟩))
  exact ⟨rfl, rfl, hb0.mono hB⟩
 | true =>
  rw [if_neg (by simp [h0])]
  go_enter Tryd.func58, Tryd.ntmps58
  go_wp2_with (go_at_call 70; refine cV.mono ?_; rintro e w0 ⟨rfl, hb0⟩)
  have hz0 := hb0.size
  go_loopw [] (fun wr => ∃ (pos : Nat) (st : Int) (acc : List UInt8), Lib.IsBuilderF 114 5 w0.heap.size w0.heap.size (Lib.byteCells acc) wr ∧ wr.heap[w0.heap.size + 1]? = some (.stringIter s pos) ∧ Below B0 w wr ∧ J st wr ∧ acc.length ≤ 4 * pos ∧
   each step 46 s.data.toList = (match each step st (s.data.toList.drop pos) with | none => none | some (bs, st') => some (acc ++ bs, st'))) (fun wr => s.size - wr.iterPos (w0.heap.size + 1))
  case atStart =>
   refine ⟨0, 46, [], (Lib.IsBuilderF.of (Lib.fresh_isBuilder 114 5 w0)).alloc _, ?_, (((hb0.mono hB).alloc (by omega) _).alloc (by simp; omega) _), ?_, by simp, ?_⟩
   ·have := World.iter_heap (w0.alloc (.cells #[.pointer none, .slice none 0 0] 114)) s 0
    simpa using this
   ·exact hK.keep _ _ _ h46 ((hb0.alloc hz0 _).alloc (by simp; omega) _)
   ·rw [List.drop_zero]
    cases each step 46 s.data.toList with
    | none => rfl
    | some p => rfl
  case round =>
   obtain ⟨pos, st, acc, hI, hit, hbw, hJ, hal, hea⟩ := hrel
   have hsz : w0.heap.size + 1 < wr.heap.size := (Array.getElem?_eq_some_iff.1 hit).1
   by_cases hp : pos < s.size
   ·have hnx : ∀ ty, (Instr.next (.pointer (some ⟨w0.heap.size + 1, 0, none⟩)) true ty).run Tryd.prog wr = _ := fun ty => Lib.run_next_any_at wr (w0.heap.size + 1) s pos ty hit hp
    have hwd := dec_width s pos
    have hru := dec_rune s pos
    have hne : s.data.toList.drop pos ≠ [] := by
     intro h
     have := congrArg List.length h
     rw [List.length_drop, hlen] at this
     simp at this; omega
    rw [each_step step st _ hne, Lib.decodeL_drop, List.drop_drop] at hea
    have hI2 := hI.iterAt hit (pos + (Utf8.decode s pos).2)
    have hit2 := Lib.iterAt_heap wr (w0.heap.size + 1) s pos (pos + (Utf8.decode s pos).2) hit
    have hbw2 := Lib.below_iterAt hbw (k := w0.heap.size + 1) (by omega) s (pos + (Utf8.decode s pos).2)
    have hJ2 := hK.keep _ _ _ hJ (Lib.below_iterAt (Below.refl w.heap.size wr) (k := w0.heap.size + 1) (by omega) s (pos + (Utf8.decode s pos).2))
    have cC := hK.call st ((Utf8.decode s pos).1 : Int) _ hJ2 (by omega) (by omega)
    have eK := hK.ent
    go_wp2_with (go_at_fn k; refine cC.mono ?_)
    rintro e W1 (⟨hst, rfl, hb1⟩ | ⟨r', hst, rfl, hJ1, hA1⟩)
    ·rw [hst] at hea
     exact ⟨rfl, by rw [hea]; rfl, hbw2.trans hb1⟩
    ·rw [hst] at hea
     have hlim := hK.lim st _ r' (by omega) (by omega) hst
     have hI3 := isB_aside hz0 hI2 hA1
     have hit3 := (hA1.above (w0.heap.size + 1) (by omega)).trans hit2
     have hz3 := hA1.size
     rw [Lib.iterAt_size] at hz3
     go_wp2_with (go_at_call 71; refine (writeRune_any w0.heap.size w0.heap.size _ r' (by omega) (by omega) _ hI3 (by rw [Lib.byteCells_length]; omega) (by omega)).mono ?_)
     rintro e W2 ⟨⟨n, rfl⟩, hI4, hb4, hk4⟩
     go_wp2
     go_roundw
     case rel =>
      have hl4 := Lib.runeCells_le r'
      rw [Lib.runeCells_length] at hl4
      refine ⟨pos + (Utf8.decode s pos).2, r', acc ++ Lib.encodeRune r', ?_, hk4.iter hit3 (by omega), (hbw2.trans hA1.below).trans (hb4.mono (by omega)), hK.keep _ _ _ hJ1 (hb4.mono hz0), by simp; omega, ?_⟩
      ·rw [Lib.byteCells_append, Lib.byteCells_encodeRune]; exact hI4
      ·rw [hea]
       cases each step r' (s.data.toList.drop (pos + (Utf8.decode s pos).2)) with
       | none => rfl
       | some p => simp
     case measure =>
      simp only [World.iterPos, hk4.iter hit3 (by omega), hit]
      omega
   ·have hnx : ∀ ty, (Instr.next (.pointer (some ⟨w0.heap.size + 1, 0, none⟩)) true ty).run Tryd.prog wr = _ := fun ty => Lib.run_next_end_at wr (w0.heap.size + 1) s pos ty hit hp
    rw [List.drop_of_length_le (by rw [hlen]; omega), each_nil] at hea
    simp only [List.append_nil] at hea
    go_wp2_with (go_at_call 72; refine (bString_any w0.heap.size w0.heap.size acc _ hI (by omega)).mono ?_)
    rintro e W1 ⟨rfl, hb1⟩
    go_wp2
    go_ret
    rw [hea]
    exact ⟨⟨rfl, hK.keep _ _ _ hJ (hb1.mono hz0)⟩, hbw.trans (hb1.mono (by omega))⟩
end Go.Proofs.YtppdopcghnfapaaDoor.Nm

namespace Go.Proofs.YtppdopcghnfapaaDoor.Nm
open Go.RowKit
def Gave (p : List UInt8 × Nat) (e : Ending) : Prop := (p.2 = 0 ∧ e = .returned (.string ⟨p.1.toArray⟩)) ∨ (p.2 ≠ 0 ∧ e = .panicked (gaveUp p.2))
theorem tabs_below {w w' : World} (hT : Lib.Utf8Tabs 0 1 w) (hb : Below w.heap.size w w') : Lib.Utf8Tabs 0 1 w' :=
  ⟨fun c hc => (Below.cell hb (World.block_lt_of_cell? w _ (hT.1 c hc))).trans (hT.1 c hc),
   fun i hi => ⟨(Below.cell hb (World.block_lt_of_cell? w _ (hT.2 i hi).1)).trans (hT.2 i hi).1, (Below.cell hb (World.block_lt_of_cell? w _ (hT.2 i hi).2)).trans (hT.2 i hi).2⟩⟩
theorem eachX_num (step : Int → Int → Option Int) (l : List UInt8) (n : Nat) (h : eachX step l = .error n) : n ≠ 0 := by
  unfold eachX at h
  split at h
  · cases h; omega
  · split at h
    · cases h; omega
    · cases he : each step 46 l with
      | none => rw [he] at h; cases h; omega
      | some p => rw [he] at h; cases h
theorem inLocal_any (s : ByteArray) (w : World) (hs : s.size ≤ 9223372036854775807) (hT : Lib.Utf8Tabs 0 1 w) :
    Calls Tryd.prog 45 #[.string s] w fun e w' => Gave (localN s.data.toList) e ∧ Below w.heap.size w w' := by
  have cE := each_any 59 #[] stepL w.heap.size (fun _ _ => True) s w hs (Nat.le_refl _) (takerL _) trivial hT
  rw [localN, prep_eachX]
  generalize hX : eachX stepL s.data.toList = X at cE ⊢
  cases X with
  | error n =>
    have hn := eachX_num _ _ _ hX
    go_enter Tryd.func45, Tryd.ntmps45
    go_wp2_with (go_at_call 58; refine cE.mono ?_; rintro e w1 ⟨rfl, hb⟩)
    exact ⟨rfl, .inr ⟨hn, rfl⟩, hb⟩
  | ok p =>
    obtain ⟨bs, st⟩ := p
    go_enter Tryd.func45, Tryd.ntmps45
    go_wp2_with (go_at_call 58; refine cE.mono ?_; rintro e w1 ⟨⟨rfl, _⟩, hb⟩)
    go_ret
    exact ⟨.inl ⟨rfl, rfl⟩, hb⟩
end Go.Proofs.YtppdopcghnfapaaDoor.Nm

namespace Go.Proofs.YtppdopcghnfapaaDoor.Nm
open Go.RowKit
theorem catchS_panicking (p : Addr) (x n : Int) (older : List PanicEntry) (w : World) (hc : w.cell? p = some (.int .i64 x)) (hz : w.frozen? p = false) :
  CallsD Tryd.prog 57 #[.pointer (some p)] (.panicking ({ v := .iface 103 (.agg #[.int .i64 n]), recovered := false } :: older)) w fun e u' w' =>
   e = .returned (.tuple #[]) ∧ u' = .panicking ({ v := .iface 103 (.agg #[.int .i64 n]), recovered := true } :: older) ∧ w' = w.setCell p (.int .i64 n) := by
 refine callsD_of_wpS Tryd.func57 rfl fun c₀ cs hu => ?_
 apply wpS_seq
 apply wpS_region
 simp [wpOpsS, go_sem, recoverD, hu, Tryd.ntmps57, Exit.thenS]
 refine wpS_of_wp ?_
 rw [show #[Value.pointer (some p)] ++ ((Array.replicate 7 undef).setIfInBounds 1 (Value.iface 103 (Value.agg #[Value.int IntKind.i64 n]))).setIfInBounds 0 (Value.iface 103 (Value.agg #[Value.int IntKind.i64 n])) = #[Value.pointer (some p), Value.iface 103 (Value.agg #[Value.int IntKind.i64 n]), Value.iface 103 (Value.agg #[Value.int IntKind.i64 n]), undef, undef, undef, undef, undef] from rfl]
 have hta : (Instr.typeAssert (Value.iface 103 (Value.agg #[Value.int IntKind.i64 n])) 20 103 false).run Tryd.prog w = .ok (Value.agg #[Value.int IntKind.i64 n]) w := by
  simp [Instr.typeAssert, go_sem]
 have hfd : (Instr.field 103 (Value.agg #[Value.int IntKind.i64 n]) 0).run Tryd.prog w = .ok (Value.int IntKind.i64 n) w := by
  simp [Instr.field, go_sem, asAgg]
 go_wp2
 simp [bodyPostS, results, Tryd.results57]
theorem catchS_idle (p : Addr) (w : World) :
  CallsD Tryd.prog 57 #[.pointer (some p)] .returning w fun e u' w' => e = .returned (.tuple #[]) ∧ u' = .returning ∧ w' = w := by
 refine callsD_of_wpS Tryd.func57 rfl fun c₀ cs hu => ?_
 apply wpS_seq
 apply wpS_region
 simp [wpOpsS, go_sem, recoverD, hu, Tryd.ntmps57, Exit.thenS]
 refine wpS_of_wp ?_
 rw [show #[Value.pointer (some p)] ++ ((Array.replicate 7 undef).setIfInBounds 1 Value.nilIface).setIfInBounds 0 Value.nilIface = #[Value.pointer (some p), Value.nilIface, Value.nilIface, undef, undef, undef, undef, undef] from rfl]
 go_wp2
 cases c₀
 simp_all [bodyPostS, results, Tryd.results57]
def Told (p : List UInt8 × Nat) : Value := .tuple #[.string ⟨p.1.toArray⟩, .int .i64 p.2]
theorem cell_one {w : World} {B : Nat} {v : Value} {t : TypeId} (h : w.heap[B]? = some (.cells #[v] t (0, 0))) : w.cell? ⟨B, 0, none⟩ = some v := by simp [World.cell?, h]
theorem thaw_one {w : World} {B : Nat} {v : Value} {t : TypeId} (h : w.heap[B]? = some (.cells #[v] t (0, 0))) : w.frozen? ⟨B, 0, none⟩ = false := by simp [World.frozen?, h]
theorem begunS_any (k : Nat) (caps : Array Value) (p : List UInt8 × Nat) (w : World) (hent : ∀ args w, (callFunc k args).run Tryd.prog w = .ok (.enter k args) w) (hp : p.2 = 0 ∨ p.1 = [])
  (hc : Calls Tryd.prog k caps (w.alloc (.cells #[.int .i64 0] 28)) fun e w' => Gave p e ∧ Below (w.heap.size + 1) (w.alloc (.cells #[.int .i64 0] 28)) w') :
  Calls Tryd.prog 43 #[.func (.func k) #[] caps] w fun e w' => e = .returned (Told p) ∧ Below w.heap.size w w' := by
 have hmf : ∀ (fn : Fn) (first cap : Array Value) (w : World), (Instr.makeFunc fn first cap).run Tryd.prog w = .ok (.func fn first cap) w := fun _ _ _ _ => rfl
 have hb0 : Below w.heap.size w (w.alloc (.cells #[.int .i64 0] 28)) := (Below.refl _ _).alloc (Nat.le_refl _) _
 have hcell : ∀ w', Below (w.heap.size + 1) (w.alloc (.cells #[.int .i64 0] 28)) w' → w'.heap[w.heap.size]? = some (.cells #[.int .i64 0] 28 (0, 0)) := fun w' hb => by
  rw [hb.block w.heap.size (by omega)]
  show (w.heap.push (.cells #[.int .i64 0] 28))[w.heap.size]? = _
  simp
 obtain ⟨l, n⟩ := p
 by_cases h0 : n = 0
 ·subst h0
  have hc' := hc.mono (fun e w' h => And.intro (h.1.elim (fun k => k.2) (fun k => absurd rfl k.1)) h.2 : ∀ e w', _ → (e = .returned (.string ⟨l.toArray⟩) ∧ _))
  clear hc
  go_enter_defers Tryd.func43, Tryd.ntmps43
  go_wp2_with (go_at_fn k; refine hc'.mono ?_; rintro e w1 ⟨rfl, hb⟩; have hcl := cell_one (hcell w1 hb); have hfz := thaw_one (hcell w1 hb))
  refine leaves_cons (f := 57) (args := #[.pointer (some ⟨w.heap.size, 0, none⟩)]) (by simp) (by simp [go_sem]) ?_
  refine (catchS_idle ⟨w.heap.size, 0, none⟩ _).mono ?_
  rintro e u' w2 ⟨rfl, rfl, rfl⟩
  have hbl : Below w.heap.size w (w1.setCell ⟨w.heap.size, 0, none⟩ (.int .i64 0)) := (hb0.trans (hb.mono (by omega))).setCell (p := ⟨w.heap.size, 0, none⟩) (Nat.le_refl _) _
  simp [Leaves, settle, results, Tryd.results43, go_sem, hcl, Told]
  exact hbl
 ·have hl : l = [] := hp.elim (fun h => absurd h h0) id
  subst hl
  have hc' := hc.mono (fun e w' h => And.intro (h.1.elim (fun k => absurd k.1 h0) (fun k => k.2)) h.2 : ∀ e w', _ → (e = .panicked (gaveUp n) ∧ _))
  clear hc
  go_enter_defers Tryd.func43, Tryd.ntmps43
  go_wp2_with (go_at_fn k; refine hc'.mono ?_; rintro e w1 ⟨rfl, hb⟩; have hcl := cell_one (hcell w1 hb); have hfz := thaw_one (hcell w1 hb))
  refine leaves_cons (f := 57) (args := #[.pointer (some ⟨w.heap.size, 0, none⟩)]) (by simp) (by simp [go_sem]) ?_
  refine (catchS_panicking ⟨w.heap.size, 0, none⟩ 0 n [] _ hcl hfz).mono ?_
  rintro e u' w2 ⟨rfl, rfl, rfl⟩
  have hbl : Below w.heap.size w (w1.setCell ⟨w.heap.size, 0, none⟩ (.int .i64 n)) := (hb0.trans (hb.mono (by omega))).setCell (p := ⟨w.heap.size, 0, none⟩) (Nat.le_refl _) _
  simp [Leaves, settle, results, Tryd.results43, go_sem, hcl, Told]
  exact hbl
end Go.Proofs.YtppdopcghnfapaaDoor.Nm

namespace Go.Proofs.YtppdopcghnfapaaDoor.Nm
open Go.RowKit
theorem cell_new (w : World) (v : Value) (t : TypeId) : (w.alloc (.cells #[v] t)).cell? ⟨w.heap.size, 0, none⟩ = some v := by
 have h : (w.alloc (.cells #[v] t)).heap[w.heap.size]? = some (.cells #[v] t (0, 0)) := by
  show (w.heap.push (.cells #[v] t))[w.heap.size]? = _
  simp
 exact cell_one h
theorem cell_newer (w : World) (v : Value) (t : TypeId) (o : Obj) : ((w.alloc (.cells #[v] t)).alloc o).cell? ⟨w.heap.size, 0, none⟩ = some v := by
 rw [World.cell?_alloc_lt _ _ _ (by simp)]; exact cell_new w v t
theorem below_new (w : World) (o : Obj) : Below w.heap.size w (w.alloc o) := (Below.refl _ _).alloc (Nat.le_refl _) _
theorem cloLocal_any (q : Addr) (s : ByteArray) (w : World) (hc : w.cell? q = some (.string s)) (hs : s.size ≤ 9223372036854775807) (hT : Lib.Utf8Tabs 0 1 w) :
  Calls Tryd.prog 44 #[.pointer (some q)] w fun e w' => Gave (localN s.data.toList) e ∧ Below w.heap.size w w' := by
 have cI := inLocal_any s w hs hT
 generalize localN s.data.toList = p at cI ⊢
 obtain ⟨l, n⟩ := p
 by_cases h0 : n = 0
 ·subst h0
  have cI' := cI.mono (fun e w' h => And.intro (h.1.elim (fun k => k.2) (fun k => absurd rfl k.1)) h.2 : ∀ e w', _ → (e = .returned (.string ⟨l.toArray⟩) ∧ _))
  clear cI
  go_enter Tryd.func44, Tryd.ntmps44
  go_wp2_with (go_at_call 45; refine cI'.mono ?_; rintro e w1 ⟨rfl, hb⟩)
  go_ret
  exact ⟨.inl ⟨rfl, rfl⟩, hb⟩
 ·have cI' := cI.mono (fun e w' h => And.intro (h.1.elim (fun k => absurd k.1 h0) (fun k => k.2)) h.2 : ∀ e w', _ → (e = .panicked (gaveUp n) ∧ _))
  clear cI
  go_enter Tryd.func44, Tryd.ntmps44
  go_wp2_with (go_at_call 45; refine cI'.mono ?_; rintro e w1 ⟨rfl, hb⟩)
  exact ⟨rfl, .inr ⟨h0, rfl⟩, hb⟩
theorem local_any (s : ByteArray) (w : World) (hs : s.size ≤ 9223372036854775807) (hT : Lib.Utf8Tabs 0 1 w) :
  Calls Tryd.prog 31 #[.string s] w fun e w' => e = .returned (Told (localN s.data.toList)) ∧ Below w.heap.size w w' := by
 have hmf : ∀ (fn : Fn) (first cap : Array Value) (w : World), (Instr.makeFunc fn first cap).run Tryd.prog w = .ok (.func fn first cap) w := fun _ _ _ _ => rfl
 have hb1 : Below w.heap.size w ((w.alloc (.cells #[.string s] 9)).alloc (.cells #[.int .i64 0] 28)) := (below_new w _).alloc (by simp) _
 have cB := begunS_any 44 #[.pointer (some ⟨w.heap.size, 0, none⟩)] (localN s.data.toList) (w.alloc (.cells #[.string s] 9)) (enters_of Tryd.func44 (by kernel_rfl) rfl) ((prep_cases _ _ _).elim .inl (fun h => .inr h.1))
  ((cloLocal_any ⟨w.heap.size, 0, none⟩ s _ (cell_newer w _ _ _) hs (tabs_below hT hb1)).mono (fun e w' h => ⟨h.1, by have := h.2; simpa using this⟩))
 generalize localN s.data.toList = p at cB ⊢
 unfold Told at cB ⊢
 go_enter Tryd.func31, Tryd.ntmps31
 go_wp2_with (go_at_call 43; refine cB.mono ?_; rintro e w1 ⟨rfl, hb⟩)
 go_ret2
 exact ⟨rfl, (below_new w _).trans (hb.mono (by simp))⟩
end Go.Proofs.YtppdopcghnfapaaDoor.Nm

set_option maxRecDepth 100000
namespace Go.Proofs.YtppdopcghnfapaaDoor
open Go.RowKit Go.Joins
def GaveV (n : Nat) (v : Value) (e : Ending) : Prop := (n = 0 ∧ e = .returned v) ∨ (n ≠ 0 ∧ e = .panicked (gaveR n))
theorem gv_ok {v : Value} {e : Ending} (h : e = .returned v) : GaveV 0 v e := Or.inl ⟨rfl, h⟩
theorem gv_no {n : Nat} (hn : n ≠ 0) {v : Value} {e : Ending} (h : e = .panicked (gaveR n)) : GaveV n v e := Or.inr ⟨hn, h⟩
def acc (m n : Int) (c : Bool) : Array Value := #[.int .i64 m, .int .u64 n, .bool c]
def hec (t : Int) (d c : Bool) : Array Value := #[.int .i64 t, .bool d, .bool c]
theorem acc_one (m n : Int) (c : Bool) : (acc m n c).all (·.oneCell') = true := by simp [acc, Value.oneCell']
theorem hec_one (t : Int) (d c : Bool) : (hec t d c).all (·.oneCell') = true := by simp [hec, Value.oneCell']
theorem res2 {fn : Func} {p t : Tmp} {ty : TypeId} (h : fn.results = #[.cell p ty, .cell t 28]) (tmps : Array Value) (w : World) (g g2 : Nat) (V : Value) (n : Int) (hp : tmps.getD p undef = .pointer (some ⟨g, 0, none⟩)) (ht : tmps.getD t undef = .pointer (some ⟨g2, 0, none⟩))
  (hr : (loadVar ty ⟨g, 0, none⟩).run Tryd.prog w = .ok V w) (h2 : w.cell? ⟨g2, 0, none⟩ = some (.int .i64 n)) : (results fn tmps).run Tryd.prog w = .ok (.tuple #[V, .int .i64 n]) w := by
 have hr2 : (loadVar 28 ⟨g2, 0, none⟩).run Tryd.prog w = .ok (.int .i64 n) w := by simp [go_sem, h2]
 have hp' : tmps[p]?.getD undef = .pointer (some ⟨g, 0, none⟩) := by simpa using hp
 have ht' : tmps[t]?.getD undef = .pointer (some ⟨g2, 0, none⟩) := by simpa using ht
 simp [results, h, hp', ht', asAddr, hr, hr2]
theorem res1 {fn : Func} {p t : Tmp} (h : fn.results = #[.tmp p, .cell t 28]) (tmps : Array Value) (w : World) (g2 : Nat) (V : Value) (n : Int) (hp : tmps.getD p undef = V) (ht : tmps.getD t undef = .pointer (some ⟨g2, 0, none⟩))
  (h2 : w.cell? ⟨g2, 0, none⟩ = some (.int .i64 n)) : (results fn tmps).run Tryd.prog w = .ok (.tuple #[V, .int .i64 n]) w := by
 have hr2 : (loadVar 28 ⟨g2, 0, none⟩).run Tryd.prog w = .ok (.int .i64 n) w := by simp [go_sem, h2]
 have hp' : tmps[p]?.getD undef = V := by simpa using hp
 have ht' : tmps[t]?.getD undef = .pointer (some ⟨g2, 0, none⟩) := by simpa using ht
 simp [results, h, hp', ht', asAddr, hr2]
theorem infoActed : (Tryd.prog.info? 56).map (·.size) = some 3 := by kernel_rfl
theorem infoHeard : (Tryd.prog.info? 40).map (·.size) = some 3 := by kernel_rfl
theorem catchA_panicking (p : Addr) (x : Int) (n : Nat) (w : World) (hc : w.cell? p = some (.int .i64 x)) (hz : w.frozen? p = false) :
  CallsD Tryd.prog 26 #[.pointer (some p)] (.panicking (gaveR n)) w fun e u' w' =>
   e = .returned (.tuple #[]) ∧ u' = .panicking [{ v := .iface 70 (.agg #[.int .i64 n]), recovered := true }] ∧ w' = w.setCell p (.int .i64 n) := by
 unfold gaveR
 refine callsD_of_wpS Tryd.func26 rfl fun c₀ cs hu => ?_
 apply wpS_seq
 apply wpS_region
 simp [wpOpsS, go_sem, recoverD, hu, Tryd.ntmps26, Exit.thenS]
 refine wpS_of_wp ?_
 rw [show #[Value.pointer (some p)] ++ ((Array.replicate 7 undef).setIfInBounds 1 (Value.iface 70 (Value.agg #[Value.int IntKind.i64 n]))).setIfInBounds 0 (Value.iface 70 (Value.agg #[Value.int IntKind.i64 n])) = #[Value.pointer (some p), Value.iface 70 (Value.agg #[Value.int IntKind.i64 n]), Value.iface 70 (Value.agg #[Value.int IntKind.i64 n]), undef, undef, undef, undef, undef] from rfl]
 have hta : (Instr.typeAssert (Value.iface 70 (Value.agg #[Value.int IntKind.i64 n])) 20 70 false).run Tryd.prog w = .ok (Value.agg #[Value.int IntKind.i64 n]) w := by
  simp [Instr.typeAssert, go_sem]
 have hfd : (Instr.field 70 (Value.agg #[Value.int IntKind.i64 n]) 0).run Tryd.prog w = .ok (Value.int IntKind.i64 n) w := by
  simp [Instr.field, go_sem, asAgg]
 go_wp2
 simp [bodyPostS, results, Tryd.results26]
theorem catchA_idle (p : Addr) (w : World) :
  CallsD Tryd.prog 26 #[.pointer (some p)] .returning w fun e u' w' => e = .returned (.tuple #[]) ∧ u' = .returning ∧ w' = w := by
 refine callsD_of_wpS Tryd.func26 rfl fun c₀ cs hu => ?_
 apply wpS_seq
 apply wpS_region
 simp [wpOpsS, go_sem, recoverD, hu, Tryd.ntmps26, Exit.thenS]
 refine wpS_of_wp ?_
 rw [show #[Value.pointer (some p)] ++ ((Array.replicate 7 undef).setIfInBounds 1 Value.nilIface).setIfInBounds 0 Value.nilIface = #[Value.pointer (some p), Value.nilIface, Value.nilIface, undef, undef, undef, undef, undef] from rfl]
 go_wp2
 cases c₀
 simp_all [bodyPostS, results, Tryd.results26]
set_option maxHeartbeats 1600000 in
theorem attemptA (k : Nat) (caps : Array Value) (n : Nat) (m x : Int) (c : Bool) (S : Nat → Prop) (Post : World → Prop) (w : World) (hent : ∀ args w, (callFunc k args).run Tryd.prog w = .ok (.enter k args) w) (hS : ∀ i, w.heap.size ≤ i → ¬ S i)
  (hc : Calls Tryd.prog k caps ((w.alloc (.cells (acc 0 0 false) 56)).alloc (.cells #[.int .i64 0] 28)) fun e w' => GaveV n (.agg (acc m x c)) e ∧ Post w' ∧ Keep S ((w.alloc (.cells (acc 0 0 false) 56)).alloc (.cells #[.int .i64 0] 28)) w') :
  Calls Tryd.prog 13 #[.func (.func k) #[] caps] w fun e w' => e = .returned (.tuple #[.agg (if n = 0 then acc m x c else acc 0 0 false), .int .i64 n]) ∧ ∃ w1, Post w1 ∧ Keep S w w1 ∧ Keep (fun i => i = w.heap.size ∨ i = w.heap.size + 1) w1 w' := by
 have hmf : ∀ (fn : Fn) (first cap : Array Value) (w : World), (Instr.makeFunc fn first cap).run Tryd.prog w = .ok (.func fn first cap) w := fun _ _ _ _ => rfl
 have hz0 : ((w.alloc (.cells (acc 0 0 false) 56)).alloc (.cells #[.int .i64 0] 28)).heap[w.heap.size]? = some (.cells (acc 0 0 false) 56 (0, 0)) := push_old (push_at _ _ rfl)
 have hz1 : ((w.alloc (.cells (acc 0 0 false) 56)).alloc (.cells #[.int .i64 0] 28)).heap[w.heap.size + 1]? = some (.cells #[.int .i64 0] 28 (0, 0)) := push_at _ _ (by simp)
 have hbW : Below w.heap.size w ((w.alloc (.cells (acc 0 0 false) 56)).alloc (.cells #[.int .i64 0] 28)) := below2 _ _ _
 obtain ⟨b, Hb⟩ : ∃ b, Hid (w.heap.size = b) := ⟨_, rfl⟩
 have hkS : ∀ w', Keep S ((w.alloc (.cells (acc 0 0 false) 56)).alloc (.cells #[.int .i64 0] 28)) w' → Keep S w w' := fun w' k => (Keep.ofBelow hbW).trans k
 have hk0 : ∀ w', Keep S ((w.alloc (.cells (acc 0 0 false) 56)).alloc (.cells #[.int .i64 0] 28)) w' → w'.heap[w.heap.size]? = some (.cells (acc 0 0 false) 56 (0, 0)) := fun w' k => box_keep hz0 k (hS _ (Nat.le_refl _))
 have hk1 : ∀ w', Keep S ((w.alloc (.cells (acc 0 0 false) 56)).alloc (.cells #[.int .i64 0] 28)) w' → w'.heap[w.heap.size + 1]? = some (.cells #[.int .i64 0] 28 (0, 0)) := fun w' k => box_keep hz1 k (hS _ (by omega))
 clear hz0 hz1 hbW
 by_cases h0 : n = 0
 ·subst h0
  rw [if_pos rfl]
  have hc' := hc.mono (fun e w' h => And.intro (h.1.elim (fun k => k.2) (fun k => absurd rfl k.1)) h.2 : ∀ e w', _ → (e = .returned (.agg (acc m x c)) ∧ _))
  clear hc
  go_enter_defers Tryd.func13, Tryd.ntmps13
  go_wp2_with (first
   | (go_at_fn k; refine hc'.mono ?_; rintro e w1 ⟨rfl, hP, hB⟩; have z0 := hk0 w1 hB; have z1 := hk1 w1 hB; have hKS := hkS w1 hB; have s1 := box_keep z1 (rowK w1 w.heap.size (acc m x c)) (by omega); have hcl := cell_one s1; have hfz := thaw_one s1)
   | (refine wpList_store_row rfl 56 (.tmp 2) (.tmp 6) rfl w.heap.size (acc m x c) rfl rfl 56 _ z0 (by rw [infoActed]; rfl) (by rfl) (acc_one m x c) ?_))
  refine leaves_cons (f := 26) (args := #[.pointer (some ⟨w.heap.size + 1, 0, none⟩)]) (by simp) (by simp [go_sem]) ?_
  refine (catchA_idle ⟨w.heap.size + 1, 0, none⟩ _).mono ?_
  rintro e u' w2 ⟨rfl, rfl, hw2⟩
  have y0 : w2.heap[w.heap.size]? = some (.cells (acc m x c) 56 (0, 0)) := by rw [hw2]; exact box_keep (setRow_heap w1 w.heap.size _ _ 56 (0, 0) z0) (setK _ (w.heap.size + 1) 0 _) (by omega)
  have y1 : w2.cell? ⟨w.heap.size + 1, 0, none⟩ = some (.int .i64 0) := by rw [hw2]; exact cell_one (block_setCell (i := 0) s1 (.int .i64 0))
  have hk2 : Keep (fun i => i = w.heap.size ∨ i = w.heap.size + 1) w1 w2 := by rw [hw2]; exact ((rowK w1 w.heap.size (acc m x c)).mono (fun i e => Or.inl e)).trans ((setK _ (w.heap.size + 1) 0 _).mono (fun i e => Or.inr e))
  clear hw2 hcl hfz s1 z0 z1
  have hld := run_loadVar_row w2 w.heap.size 56 56 _ (0, 0) _ y0 Tryd.underlying56 rfl (by rw [infoActed]; rfl)
  simp only [Leaves, settle]
  exact ⟨_, res2 (by rfl) _ w2 _ _ _ _ (by rfl) (by rfl) hld y1, rfl, w1, hP, hKS, hk2⟩
 ·rw [if_neg h0]
  have hc' := hc.mono (fun e w' h => And.intro (h.1.elim (fun k => absurd k.1 h0) (fun k => k.2)) h.2 : ∀ e w', _ → (e = .panicked (gaveR n) ∧ _))
  clear hc
  go_enter_defers Tryd.func13, Tryd.ntmps13
  go_wp2_with (first
   | (go_at_fn k; refine hc'.mono ?_; rintro e w1 ⟨rfl, hP, hB⟩; have z0 := hk0 w1 hB; have z1 := hk1 w1 hB; have hKS := hkS w1 hB; have hcl := cell_one z1; have hfz := thaw_one z1))
  refine leaves_cons (f := 26) (args := #[.pointer (some ⟨w.heap.size + 1, 0, none⟩)]) (by simp) (by simp [go_sem]) ?_
  refine (catchA_panicking ⟨w.heap.size + 1, 0, none⟩ 0 n _ hcl hfz).mono ?_
  rintro e u' w2 ⟨rfl, rfl, hw2⟩
  have y0 : w2.heap[w.heap.size]? = some (.cells (acc 0 0 false) 56 (0, 0)) := by rw [hw2]; exact box_keep z0 (setK _ (w.heap.size + 1) 0 _) (by omega)
  have y1 : w2.cell? ⟨w.heap.size + 1, 0, none⟩ = some (.int .i64 n) := by rw [hw2]; exact cell_one (block_setCell (i := 0) z1 (.int .i64 n))
  have hk2 : Keep (fun i => i = w.heap.size ∨ i = w.heap.size + 1) w1 w2 := by rw [hw2]; exact (setK _ (w.heap.size + 1) 0 _).mono (fun i e => Or.inr e)
  clear hw2 hcl hfz z0 z1
  have hld := run_loadVar_row w2 w.heap.size 56 56 _ (0, 0) _ y0 Tryd.underlying56 rfl (by rw [infoActed]; rfl)
  simp only [settle]
  exact ⟨_, res2 (by rfl) _ w2 _ _ _ _ (by rfl) (by rfl) hld y1, rfl, w1, hP, hKS, hk2⟩
theorem catchH_panicking (p : Addr) (x : Int) (n : Nat) (w : World) (hc : w.cell? p = some (.int .i64 x)) (hz : w.frozen? p = false) :
  CallsD Tryd.prog 32 #[.pointer (some p)] (.panicking (gaveR n)) w fun e u' w' =>
   e = .returned (.tuple #[]) ∧ u' = .panicking [{ v := .iface 70 (.agg #[.int .i64 n]), recovered := true }] ∧ w' = w.setCell p (.int .i64 n) := by
 unfold gaveR
 refine callsD_of_wpS Tryd.func32 rfl fun c₀ cs hu => ?_
 apply wpS_seq
 apply wpS_region
 simp [wpOpsS, go_sem, recoverD, hu, Tryd.ntmps32, Exit.thenS]
 refine wpS_of_wp ?_
 rw [show #[Value.pointer (some p)] ++ ((Array.replicate 7 undef).setIfInBounds 1 (Value.iface 70 (Value.agg #[Value.int IntKind.i64 n]))).setIfInBounds 0 (Value.iface 70 (Value.agg #[Value.int IntKind.i64 n])) = #[Value.pointer (some p), Value.iface 70 (Value.agg #[Value.int IntKind.i64 n]), Value.iface 70 (Value.agg #[Value.int IntKind.i64 n]), undef, undef, undef, undef, undef] from rfl]
 have hta : (Instr.typeAssert (Value.iface 70 (Value.agg #[Value.int IntKind.i64 n])) 20 70 false).run Tryd.prog w = .ok (Value.agg #[Value.int IntKind.i64 n]) w := by
  simp [Instr.typeAssert, go_sem]
 have hfd : (Instr.field 70 (Value.agg #[Value.int IntKind.i64 n]) 0).run Tryd.prog w = .ok (Value.int IntKind.i64 n) w := by
  simp [Instr.field, go_sem, asAgg]
 go_wp2
 simp [bodyPostS, results, Tryd.results32]
theorem catchH_idle (p : Addr) (w : World) :
  CallsD Tryd.prog 32 #[.pointer (some p)] .returning w fun e u' w' => e = .returned (.tuple #[]) ∧ u' = .returning ∧ w' = w := by
 refine callsD_of_wpS Tryd.func32 rfl fun c₀ cs hu => ?_
 apply wpS_seq
 apply wpS_region
 simp [wpOpsS, go_sem, recoverD, hu, Tryd.ntmps32, Exit.thenS]
 refine wpS_of_wp ?_
 rw [show #[Value.pointer (some p)] ++ ((Array.replicate 7 undef).setIfInBounds 1 Value.nilIface).setIfInBounds 0 Value.nilIface = #[Value.pointer (some p), Value.nilIface, Value.nilIface, undef, undef, undef, undef, undef] from rfl]
 go_wp2
 cases c₀
 simp_all [bodyPostS, results, Tryd.results32]
set_option maxHeartbeats 1600000 in
theorem attemptH (k : Nat) (caps : Array Value) (n : Nat) (tl : Int) (dn c : Bool) (S : Nat → Prop) (Post : World → Prop) (w : World) (hent : ∀ args w, (callFunc k args).run Tryd.prog w = .ok (.enter k args) w) (hS : ∀ i, w.heap.size ≤ i → ¬ S i)
  (hc : Calls Tryd.prog k caps ((w.alloc (.cells (hec 0 false false) 40)).alloc (.cells #[.int .i64 0] 28)) fun e w' => GaveV n (.agg (hec tl dn c)) e ∧ Post w' ∧ Keep S ((w.alloc (.cells (hec 0 false false) 40)).alloc (.cells #[.int .i64 0] 28)) w') :
  Calls Tryd.prog 17 #[.func (.func k) #[] caps] w fun e w' => e = .returned (.tuple #[.agg (if n = 0 then hec tl dn c else hec 0 false false), .int .i64 n]) ∧ ∃ w1, Post w1 ∧ Keep S w w1 ∧ Keep (fun i => i = w.heap.size ∨ i = w.heap.size + 1) w1 w' := by
 have hmf : ∀ (fn : Fn) (first cap : Array Value) (w : World), (Instr.makeFunc fn first cap).run Tryd.prog w = .ok (.func fn first cap) w := fun _ _ _ _ => rfl
 have hz0 : ((w.alloc (.cells (hec 0 false false) 40)).alloc (.cells #[.int .i64 0] 28)).heap[w.heap.size]? = some (.cells (hec 0 false false) 40 (0, 0)) := push_old (push_at _ _ rfl)
 have hz1 : ((w.alloc (.cells (hec 0 false false) 40)).alloc (.cells #[.int .i64 0] 28)).heap[w.heap.size + 1]? = some (.cells #[.int .i64 0] 28 (0, 0)) := push_at _ _ (by simp)
 have hbW : Below w.heap.size w ((w.alloc (.cells (hec 0 false false) 40)).alloc (.cells #[.int .i64 0] 28)) := below2 _ _ _
 obtain ⟨b, Hb⟩ : ∃ b, Hid (w.heap.size = b) := ⟨_, rfl⟩
 have hkS : ∀ w', Keep S ((w.alloc (.cells (hec 0 false false) 40)).alloc (.cells #[.int .i64 0] 28)) w' → Keep S w w' := fun w' k => (Keep.ofBelow hbW).trans k
 have hk0 : ∀ w', Keep S ((w.alloc (.cells (hec 0 false false) 40)).alloc (.cells #[.int .i64 0] 28)) w' → w'.heap[w.heap.size]? = some (.cells (hec 0 false false) 40 (0, 0)) := fun w' k => box_keep hz0 k (hS _ (Nat.le_refl _))
 have hk1 : ∀ w', Keep S ((w.alloc (.cells (hec 0 false false) 40)).alloc (.cells #[.int .i64 0] 28)) w' → w'.heap[w.heap.size + 1]? = some (.cells #[.int .i64 0] 28 (0, 0)) := fun w' k => box_keep hz1 k (hS _ (by omega))
 clear hz0 hz1 hbW
 by_cases h0 : n = 0
 ·subst h0
  rw [if_pos rfl]
  have hc' := hc.mono (fun e w' h => And.intro (h.1.elim (fun k => k.2) (fun k => absurd rfl k.1)) h.2 : ∀ e w', _ → (e = .returned (.agg (hec tl dn c)) ∧ _))
  clear hc
  go_enter_defers Tryd.func17, Tryd.ntmps17
  go_wp2_with (first
   | (go_at_fn k; refine hc'.mono ?_; rintro e w1 ⟨rfl, hP, hB⟩; have z0 := hk0 w1 hB; have z1 := hk1 w1 hB; have hKS := hkS w1 hB; have s1 := box_keep z1 (rowK w1 w.heap.size (hec tl dn c)) (by omega); have hcl := cell_one s1; have hfz := thaw_one s1)
   | (refine wpList_store_row rfl 40 (.tmp 2) (.tmp 6) rfl w.heap.size (hec tl dn c) rfl rfl 40 _ z0 (by rw [infoHeard]; rfl) (by rfl) (hec_one tl dn c) ?_))
  refine leaves_cons (f := 32) (args := #[.pointer (some ⟨w.heap.size + 1, 0, none⟩)]) (by simp) (by simp [go_sem]) ?_
  refine (catchH_idle ⟨w.heap.size + 1, 0, none⟩ _).mono ?_
  rintro e u' w2 ⟨rfl, rfl, hw2⟩
  have y0 : w2.heap[w.heap.size]? = some (.cells (hec tl dn c) 40 (0, 0)) := by rw [hw2]; exact box_keep (setRow_heap w1 w.heap.size _ _ 40 (0, 0) z0) (setK _ (w.heap.size + 1) 0 _) (by omega)
  have y1 : w2.cell? ⟨w.heap.size + 1, 0, none⟩ = some (.int .i64 0) := by rw [hw2]; exact cell_one (block_setCell (i := 0) s1 (.int .i64 0))
  have hk2 : Keep (fun i => i = w.heap.size ∨ i = w.heap.size + 1) w1 w2 := by rw [hw2]; exact ((rowK w1 w.heap.size (hec tl dn c)).mono (fun i e => Or.inl e)).trans ((setK _ (w.heap.size + 1) 0 _).mono (fun i e => Or.inr e))
  clear hw2 hcl hfz s1 z0 z1
  have hld := run_loadVar_row w2 w.heap.size 40 40 _ (0, 0) _ y0 Tryd.underlying40 rfl (by rw [infoHeard]; rfl)
  simp only [Leaves, settle]
  exact ⟨_, res2 (by rfl) _ w2 _ _ _ _ (by rfl) (by rfl) hld y1, rfl, w1, hP, hKS, hk2⟩
 ·rw [if_neg h0]
  have hc' := hc.mono (fun e w' h => And.intro (h.1.elim (fun k => absurd k.1 h0) (fun k => k.2)) h.2 : ∀ e w', _ → (e = .panicked (gaveR n) ∧ _))
  clear hc
  go_enter_defers Tryd.func17, Tryd.ntmps17
  go_wp2_with (first
   | (go_at_fn k; refine hc'.mono ?_; rintro e w1 ⟨rfl, hP, hB⟩; have z0 := hk0 w1 hB; have z1 := hk1 w1 hB; have hKS := hkS w1 hB; have hcl := cell_one z1; have hfz := thaw_one z1))
  refine leaves_cons (f := 32) (args := #[.pointer (some ⟨w.heap.size + 1, 0, none⟩)]) (by simp) (by simp [go_sem]) ?_
  refine (catchH_panicking ⟨w.heap.size + 1, 0, none⟩ 0 n _ hcl hfz).mono ?_
  rintro e u' w2 ⟨rfl, rfl, hw2⟩
  have y0 : w2.heap[w.heap.size]? = some (.cells (hec 0 false false) 40 (0, 0)) := by rw [hw2]; exact box_keep z0 (setK _ (w.heap.size + 1) 0 _) (by omega)
  have y1 : w2.cell? ⟨w.heap.size + 1, 0, none⟩ = some (.int .i64 n) := by rw [hw2]; exact cell_one (block_setCell (i := 0) z1 (.int .i64 n))
  have hk2 : Keep (fun i => i = w.heap.size ∨ i = w.heap.size + 1) w1 w2 := by rw [hw2]; exact (setK _ (w.heap.size + 1) 0 _).mono (fun i e => Or.inr e)
  clear hw2 hcl hfz z0 z1
  have hld := run_loadVar_row w2 w.heap.size 40 40 _ (0, 0) _ y0 Tryd.underlying40 rfl (by rw [infoHeard]; rfl)
  simp only [settle]
  exact ⟨_, res2 (by rfl) _ w2 _ _ _ _ (by rfl) (by rfl) hld y1, rfl, w1, hP, hKS, hk2⟩
theorem catchE_panicking (p : Addr) (x : Int) (n : Nat) (w : World) (hc : w.cell? p = some (.int .i64 x)) (hz : w.frozen? p = false) :
  CallsD Tryd.prog 36 #[.pointer (some p)] (.panicking (gaveR n)) w fun e u' w' =>
   e = .returned (.tuple #[]) ∧ u' = .panicking [{ v := .iface 70 (.agg #[.int .i64 n]), recovered := true }] ∧ w' = w.setCell p (.int .i64 n) := by
 unfold gaveR
 refine callsD_of_wpS Tryd.func36 rfl fun c₀ cs hu => ?_
 apply wpS_seq
 apply wpS_region
 simp [wpOpsS, go_sem, recoverD, hu, Tryd.ntmps36, Exit.thenS]
 refine wpS_of_wp ?_
 rw [show #[Value.pointer (some p)] ++ ((Array.replicate 7 undef).setIfInBounds 1 (Value.iface 70 (Value.agg #[Value.int IntKind.i64 n]))).setIfInBounds 0 (Value.iface 70 (Value.agg #[Value.int IntKind.i64 n])) = #[Value.pointer (some p), Value.iface 70 (Value.agg #[Value.int IntKind.i64 n]), Value.iface 70 (Value.agg #[Value.int IntKind.i64 n]), undef, undef, undef, undef, undef] from rfl]
 have hta : (Instr.typeAssert (Value.iface 70 (Value.agg #[Value.int IntKind.i64 n])) 20 70 false).run Tryd.prog w = .ok (Value.agg #[Value.int IntKind.i64 n]) w := by
  simp [Instr.typeAssert, go_sem]
 have hfd : (Instr.field 70 (Value.agg #[Value.int IntKind.i64 n]) 0).run Tryd.prog w = .ok (Value.int IntKind.i64 n) w := by
  simp [Instr.field, go_sem, asAgg]
 go_wp2
 simp [bodyPostS, results, Tryd.results36]
theorem catchE_idle (p : Addr) (w : World) :
  CallsD Tryd.prog 36 #[.pointer (some p)] .returning w fun e u' w' => e = .returned (.tuple #[]) ∧ u' = .returning ∧ w' = w := by
 refine callsD_of_wpS Tryd.func36 rfl fun c₀ cs hu => ?_
 apply wpS_seq
 apply wpS_region
 simp [wpOpsS, go_sem, recoverD, hu, Tryd.ntmps36, Exit.thenS]
 refine wpS_of_wp ?_
 rw [show #[Value.pointer (some p)] ++ ((Array.replicate 7 undef).setIfInBounds 1 Value.nilIface).setIfInBounds 0 Value.nilIface = #[Value.pointer (some p), Value.nilIface, Value.nilIface, undef, undef, undef, undef, undef] from rfl]
 go_wp2
 cases c₀
 simp_all [bodyPostS, results, Tryd.results36]
set_option maxHeartbeats 1600000 in
theorem attemptE (k : Nat) (caps : Array Value) (n : Nat) (x : En) (S : Nat → Prop) (Post : World → Prop) (w : World) (hent : ∀ args w, (callFunc k args).run Tryd.prog w = .ok (.enter k args) w) (hS : ∀ i, w.heap.size ≤ i → ¬ S i)
  (hc : Calls Tryd.prog k caps ((w.alloc (.cells (enc (en0 ⟨#[]⟩)) 47)).alloc (.cells #[.int .i64 0] 28)) fun e w' => GaveV n (.agg (enc x)) e ∧ Post w' ∧ Keep S ((w.alloc (.cells (enc (en0 ⟨#[]⟩)) 47)).alloc (.cells #[.int .i64 0] 28)) w') :
  Calls Tryd.prog 20 #[.func (.func k) #[] caps] w fun e w' => e = .returned (.tuple #[.agg (if n = 0 then enc x else enc (en0 ⟨#[]⟩)), .int .i64 n]) ∧ ∃ w1, Post w1 ∧ Keep S w w1 ∧ Keep (fun i => i = w.heap.size ∨ i = w.heap.size + 1) w1 w' := by
 have hmf : ∀ (fn : Fn) (first cap : Array Value) (w : World), (Instr.makeFunc fn first cap).run Tryd.prog w = .ok (.func fn first cap) w := fun _ _ _ _ => rfl
 have hz0 : ((w.alloc (.cells (enc (en0 ⟨#[]⟩)) 47)).alloc (.cells #[.int .i64 0] 28)).heap[w.heap.size]? = some (.cells (enc (en0 ⟨#[]⟩)) 47 (0, 0)) := push_old (push_at _ _ rfl)
 have hz1 : ((w.alloc (.cells (enc (en0 ⟨#[]⟩)) 47)).alloc (.cells #[.int .i64 0] 28)).heap[w.heap.size + 1]? = some (.cells #[.int .i64 0] 28 (0, 0)) := push_at _ _ (by simp)
 have hbW : Below w.heap.size w ((w.alloc (.cells (enc (en0 ⟨#[]⟩)) 47)).alloc (.cells #[.int .i64 0] 28)) := below2 _ _ _
 obtain ⟨b, Hb⟩ : ∃ b, Hid (w.heap.size = b) := ⟨_, rfl⟩
 have hkS : ∀ w', Keep S ((w.alloc (.cells (enc (en0 ⟨#[]⟩)) 47)).alloc (.cells #[.int .i64 0] 28)) w' → Keep S w w' := fun w' k => (Keep.ofBelow hbW).trans k
 have hk0 : ∀ w', Keep S ((w.alloc (.cells (enc (en0 ⟨#[]⟩)) 47)).alloc (.cells #[.int .i64 0] 28)) w' → w'.heap[w.heap.size]? = some (.cells (enc (en0 ⟨#[]⟩)) 47 (0, 0)) := fun w' k => box_keep hz0 k (hS _ (Nat.le_refl _))
 have hk1 : ∀ w', Keep S ((w.alloc (.cells (enc (en0 ⟨#[]⟩)) 47)).alloc (.cells #[.int .i64 0] 28)) w' → w'.heap[w.heap.size + 1]? = some (.cells #[.int .i64 0] 28 (0, 0)) := fun w' k => box_keep hz1 k (hS _ (by omega))
 clear hz0 hz1 hbW
 by_cases h0 : n = 0
 ·subst h0
  rw [if_pos rfl]
  have hc' := hc.mono (fun e w' h => And.intro (h.1.elim (fun k => k.2) (fun k => absurd rfl k.1)) h.2 : ∀ e w', _ → (e = .returned (.agg (enc x)) ∧ _))
  clear hc
  go_enter_defers Tryd.func20, Tryd.ntmps20
  go_wp2_with (first
   | (go_at_fn k; refine hc'.mono ?_; rintro e w1 ⟨rfl, hP, hB⟩; have z0 := hk0 w1 hB; have z1 := hk1 w1 hB; have hKS := hkS w1 hB; have s1 := box_keep z1 (rowK w1 w.heap.size (enc x)) (by omega); have hcl := cell_one s1; have hfz := thaw_one s1)
   | (refine wpList_store_row rfl 47 (.tmp 2) (.tmp 6) rfl w.heap.size (enc x) rfl rfl 47 _ z0 (by rw [infoEntry]; rfl) (by rfl) (enc_one x) ?_))
  refine leaves_cons (f := 36) (args := #[.pointer (some ⟨w.heap.size + 1, 0, none⟩)]) (by simp) (by simp [go_sem]) ?_
  refine (catchE_idle ⟨w.heap.size + 1, 0, none⟩ _).mono ?_
  rintro e u' w2 ⟨rfl, rfl, hw2⟩
  have y0 : w2.heap[w.heap.size]? = some (.cells (enc x) 47 (0, 0)) := by rw [hw2]; exact box_keep (setRow_heap w1 w.heap.size _ _ 47 (0, 0) z0) (setK _ (w.heap.size + 1) 0 _) (by omega)
  have y1 : w2.cell? ⟨w.heap.size + 1, 0, none⟩ = some (.int .i64 0) := by rw [hw2]; exact cell_one (block_setCell (i := 0) s1 (.int .i64 0))
  have hk2 : Keep (fun i => i = w.heap.size ∨ i = w.heap.size + 1) w1 w2 := by rw [hw2]; exact ((rowK w1 w.heap.size (enc x)).mono (fun i e => Or.inl e)).trans ((setK _ (w.heap.size + 1) 0 _).mono (fun i e => Or.inr e))
  clear hw2 hcl hfz s1 z0 z1
  have hld := run_loadVar_row w2 w.heap.size 47 47 _ (0, 0) _ y0 Tryd.underlying47 rfl (by rw [infoEntry]; rfl)
  simp only [Leaves, settle]
  exact ⟨_, res2 (by rfl) _ w2 _ _ _ _ (by rfl) (by rfl) hld y1, rfl, w1, hP, hKS, hk2⟩
 ·rw [if_neg h0]
  have hc' := hc.mono (fun e w' h => And.intro (h.1.elim (fun k => absurd k.1 h0) (fun k => k.2)) h.2 : ∀ e w', _ → (e = .panicked (gaveR n) ∧ _))
  clear hc
  go_enter_defers Tryd.func20, Tryd.ntmps20
  go_wp2_with (first
   | (go_at_fn k; refine hc'.mono ?_; rintro e w1 ⟨rfl, hP, hB⟩; have z0 := hk0 w1 hB; have z1 := hk1 w1 hB; have hKS := hkS w1 hB; have hcl := cell_one z1; have hfz := thaw_one z1))
  refine leaves_cons (f := 36) (args := #[.pointer (some ⟨w.heap.size + 1, 0, none⟩)]) (by simp) (by simp [go_sem]) ?_
  refine (catchE_panicking ⟨w.heap.size + 1, 0, none⟩ 0 n _ hcl hfz).mono ?_
  rintro e u' w2 ⟨rfl, rfl, hw2⟩
  have y0 : w2.heap[w.heap.size]? = some (.cells (enc (en0 ⟨#[]⟩)) 47 (0, 0)) := by rw [hw2]; exact box_keep z0 (setK _ (w.heap.size + 1) 0 _) (by omega)
  have y1 : w2.cell? ⟨w.heap.size + 1, 0, none⟩ = some (.int .i64 n) := by rw [hw2]; exact cell_one (block_setCell (i := 0) z1 (.int .i64 n))
  have hk2 : Keep (fun i => i = w.heap.size ∨ i = w.heap.size + 1) w1 w2 := by rw [hw2]; exact (setK _ (w.heap.size + 1) 0 _).mono (fun i e => Or.inr e)
  clear hw2 hcl hfz z0 z1
  have hld := run_loadVar_row w2 w.heap.size 47 47 _ (0, 0) _ y0 Tryd.underlying47 rfl (by rw [infoEntry]; rfl)
  simp only [settle]
  exact ⟨_, res2 (by rfl) _ w2 _ _ _ _ (by rfl) (by rfl) hld y1, rfl, w1, hP, hKS, hk2⟩
theorem catchR_panicking (p : Addr) (x : Int) (n : Nat) (w : World) (hc : w.cell? p = some (.int .i64 x)) (hz : w.frozen? p = false) :
  CallsD Tryd.prog 23 #[.pointer (some p)] (.panicking (gaveR n)) w fun e u' w' =>
   e = .returned (.tuple #[]) ∧ u' = .panicking [{ v := .iface 70 (.agg #[.int .i64 n]), recovered := true }] ∧ w' = w.setCell p (.int .i64 n) := by
 unfold gaveR
 refine callsD_of_wpS Tryd.func23 rfl fun c₀ cs hu => ?_
 apply wpS_seq
 apply wpS_region
 simp [wpOpsS, go_sem, recoverD, hu, Tryd.ntmps23, Exit.thenS]
 refine wpS_of_wp ?_
 rw [show #[Value.pointer (some p)] ++ ((Array.replicate 7 undef).setIfInBounds 1 (Value.iface 70 (Value.agg #[Value.int IntKind.i64 n]))).setIfInBounds 0 (Value.iface 70 (Value.agg #[Value.int IntKind.i64 n])) = #[Value.pointer (some p), Value.iface 70 (Value.agg #[Value.int IntKind.i64 n]), Value.iface 70 (Value.agg #[Value.int IntKind.i64 n]), undef, undef, undef, undef, undef] from rfl]
 have hta : (Instr.typeAssert (Value.iface 70 (Value.agg #[Value.int IntKind.i64 n])) 20 70 false).run Tryd.prog w = .ok (Value.agg #[Value.int IntKind.i64 n]) w := by
  simp [Instr.typeAssert, go_sem]
 have hfd : (Instr.field 70 (Value.agg #[Value.int IntKind.i64 n]) 0).run Tryd.prog w = .ok (Value.int IntKind.i64 n) w := by
  simp [Instr.field, go_sem, asAgg]
 go_wp2
 simp [bodyPostS, results, Tryd.results23]
theorem catchR_idle (p : Addr) (w : World) :
  CallsD Tryd.prog 23 #[.pointer (some p)] .returning w fun e u' w' => e = .returned (.tuple #[]) ∧ u' = .returning ∧ w' = w := by
 refine callsD_of_wpS Tryd.func23 rfl fun c₀ cs hu => ?_
 apply wpS_seq
 apply wpS_region
 simp [wpOpsS, go_sem, recoverD, hu, Tryd.ntmps23, Exit.thenS]
 refine wpS_of_wp ?_
 rw [show #[Value.pointer (some p)] ++ ((Array.replicate 7 undef).setIfInBounds 1 Value.nilIface).setIfInBounds 0 Value.nilIface = #[Value.pointer (some p), Value.nilIface, Value.nilIface, undef, undef, undef, undef, undef] from rfl]
 go_wp2
 cases c₀
 simp_all [bodyPostS, results, Tryd.results23]
set_option maxHeartbeats 1600000 in
theorem attemptR (k : Nat) (caps : Array Value) (n : Nat) (q : Nat) (Post : World → Prop) (w : World) (hent : ∀ args w, (callFunc k args).run Tryd.prog w = .ok (.enter k args) w)
  (hc : Calls Tryd.prog k caps (w.alloc (.cells #[.int .i64 0] 28)) fun e w' => GaveV n (.pointer (some ⟨q, 0, none⟩)) e ∧ Post w' ∧ Below (w.heap.size + 1) (w.alloc (.cells #[.int .i64 0] 28)) w') :
  Calls Tryd.prog 9 #[.func (.func k) #[] caps] w fun e w' => e = .returned (.tuple #[if n = 0 then .pointer (some ⟨q, 0, none⟩) else .pointer none, .int .i64 n]) ∧ ∃ w1, Post w1 ∧ Below w.heap.size w w1 ∧ Keep (fun i => i = w.heap.size) w1 w' := by
 have hmf : ∀ (fn : Fn) (first cap : Array Value) (w : World), (Instr.makeFunc fn first cap).run Tryd.prog w = .ok (.func fn first cap) w := fun _ _ _ _ => rfl
 have hz1 : (w.alloc (.cells #[.int .i64 0] 28)).heap[w.heap.size]? = some (.cells #[.int .i64 0] 28 (0, 0)) := push_at _ _ rfl
 have hbW : Below w.heap.size w (w.alloc (.cells #[.int .i64 0] 28)) := below1 _ _
 have hkS : ∀ w', Below (w.heap.size + 1) (w.alloc (.cells #[.int .i64 0] 28)) w' → Below w.heap.size w w' := fun w' k => hbW.trans (k.mono (by omega))
 have hk1 : ∀ w', Below (w.heap.size + 1) (w.alloc (.cells #[.int .i64 0] 28)) w' → w'.heap[w.heap.size]? = some (.cells #[.int .i64 0] 28 (0, 0)) := fun w' k => (k.block w.heap.size (by omega)).trans hz1
 clear hz1 hbW
 by_cases h0 : n = 0
 ·subst h0
  rw [if_pos rfl]
  have hc' := hc.mono (fun e w' h => And.intro (h.1.elim (fun k => k.2) (fun k => absurd rfl k.1)) h.2 : ∀ e w', _ → (e = .returned (.pointer (some ⟨q, 0, none⟩)) ∧ _))
  clear hc
  go_enter_defers Tryd.func9, Tryd.ntmps9
  go_wp2_with (first
   | (go_at_fn k; refine hc'.mono ?_; rintro e w1 ⟨rfl, hP, hB⟩; have z1 := hk1 w1 hB; have hKS := hkS w1 hB; have hcl := cell_one z1; have hfz := thaw_one z1))
  refine leaves_cons (f := 23) (args := #[.pointer (some ⟨w.heap.size, 0, none⟩)]) (by simp) (by simp [go_sem]) ?_
  refine (catchR_idle ⟨w.heap.size, 0, none⟩ _).mono ?_
  rintro e u' w2 ⟨rfl, rfl, hw2⟩
  have y1 : w2.cell? ⟨w.heap.size, 0, none⟩ = some (.int .i64 0) := by rw [hw2]; exact cell_one (block_setCell (i := 0) z1 (.int .i64 0))
  have hk2 : Keep (fun i => i = w.heap.size) w1 w2 := by rw [hw2]; exact setK _ w.heap.size 0 _
  clear hw2 hcl hfz z1
  simp only [Leaves, settle]
  exact ⟨_, res1 (by rfl) _ w2 _ _ _ (by rfl) (by rfl) y1, rfl, w1, hP, hKS, hk2⟩
 ·rw [if_neg h0]
  have hc' := hc.mono (fun e w' h => And.intro (h.1.elim (fun k => absurd k.1 h0) (fun k => k.2)) h.2 : ∀ e w', _ → (e = .panicked (gaveR n) ∧ _))
  clear hc
  go_enter_defers Tryd.func9, Tryd.ntmps9
  go_wp2_with (first
   | (go_at_fn k; refine hc'.mono ?_; rintro e w1 ⟨rfl, hP, hB⟩; have z1 := hk1 w1 hB; have hKS := hkS w1 hB; have hcl := cell_one z1; have hfz := thaw_one z1))
  refine leaves_cons (f := 23) (args := #[.pointer (some ⟨w.heap.size, 0, none⟩)]) (by simp) (by simp [go_sem]) ?_
  refine (catchR_panicking ⟨w.heap.size, 0, none⟩ 0 n _ hcl hfz).mono ?_
  rintro e u' w2 ⟨rfl, rfl, hw2⟩
  have y1 : w2.cell? ⟨w.heap.size, 0, none⟩ = some (.int .i64 n) := by rw [hw2]; exact cell_one (block_setCell (i := 0) z1 (.int .i64 n))
  have hk2 : Keep (fun i => i = w.heap.size) w1 w2 := by rw [hw2]; exact setK _ w.heap.size 0 _
  clear hw2 hcl hfz z1
  simp only [settle]
  exact ⟨_, res1 (by rfl) _ w2 _ _ _ (by rfl) (by rfl) y1, rfl, w1, hP, hKS, hk2⟩
theorem rlocal_any (s : ByteArray) (w : World) (hs : s.size ≤ 9223372036854775807) (hT : Lib.Utf8Tabs 0 1 w) :
  Calls Tryd.prog 16 #[.string s] w fun e w' => GaveV (Nm.localN s.data.toList).2 (.string ⟨(Nm.localN s.data.toList).1.toArray⟩) e ∧ Below w.heap.size w w' := by
 have hl := Nm.local_any s w hs hT
 unfold Nm.Told at hl
 generalize Nm.localN s.data.toList = p at hl ⊢
 obtain ⟨l, n⟩ := p
 have hd1 := fun w => demR_ok 0 w
 have hd0 := fun w => demR_no n w
 by_cases h0 : n = 0
 ·subst h0
  go_enter Tryd.func16, Tryd.ntmps16
  go_wp2_with (first
   | (go_at_call 31; refine hl.mono ?_; rintro e w1 ⟨rfl, hb⟩)
   | (go_at_call 24; refine (hd1 _).mono ?_; rintro e w2 ⟨rfl, rfl⟩))
  go_ret
  exact ⟨gv_ok rfl, hb⟩
 ·have z0 : ((n : Int) == 0) = false := by rw [beq_eq_false_iff_ne]; omega
  go_enter Tryd.func16, Tryd.ntmps16
  go_wp2_with (first
   | (go_at_call 31; refine hl.mono ?_; rintro e w1 ⟨rfl, hb⟩)
   | (go_at_call 24; refine (hd0 _).mono ?_; rintro e w2 ⟨rfl, rfl⟩))
  exact ⟨rfl, gv_no h0 rfl, hb⟩
end Go.Proofs.YtppdopcghnfapaaDoor
