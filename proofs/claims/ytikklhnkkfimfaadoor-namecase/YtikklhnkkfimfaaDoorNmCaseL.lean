/- NameCase, the law. -/
import Derived.Test.YtikklhnkkfimfaaDoorNmCaseP
import Derived.Test.YtikklhnkkfimfaaDoorNmIx
import Derived.Test.YtikklhnkkfimfaaDoorNmParse
import Derived.Test.YtikklhnkkfimfaaDoorNmRow
import Derived.Test.YtikklhnkkfimfaaDoorNmSpread
import Derived.Test.YtikklhnkkfimfaaDoorNmWakes
import Derived.Test.YtikklhnkkfimfaaDoorNmKeep
import Derived.Test.YtikklhnkkfimfaaDoorNmPlan
import Derived.Deep.CutRange
namespace Go.Proofs.YtikklhnkkfimfaaDoor
open Go.RowKit

/-- The bools that came in. -/
structure Ups (w : World) (a : Option Addr) (n : Nat) (B : Nat → Bool) : Prop where
  flat : 0 < n → ∃ b off, a = some ⟨b, off, none⟩ ∧ ∀ j, j < n → w.cell? ⟨b, off + j, none⟩ = some (.bool (B j))

theorem Row.put {w : World} {B : Nat} {g c N : Nat} {l : List UInt8} (h : Row w B (.slice (some ⟨g, 0, none⟩) N c) l) {k : Nat} (hk : k < l.length) (x : UInt8) : Row (w.setCell ⟨g, k, none⟩ (bv x)) B (.slice (some ⟨g, 0, none⟩) N c) (l.set k x) := by
  obtain ⟨g', c', hv, hB, hg, hc, hm, h1, h2, h3⟩ := h
  cases hv
  have hsome := h1 k (by omega)
  refine ⟨g, c, by rw [List.length_set], hB, by simpa [World.setCell] using hg, by rw [List.length_set]; exact hc, hm, fun j hj => ?_, fun j hj => ?_, fun j hj => ?_⟩
  · by_cases hjk : j = k
    · subst hjk
      obtain ⟨v, hv⟩ := Option.isSome_iff_exists.1 hsome
      rw [World.cell?_setCell_same _ _ _ hv]; rfl
    · rw [World.cell?_setCell_other _ _ _ _ (by intro e; injection e with e1 e2; exact hjk e2.symm)]
      exact h1 j hj
  · rw [World.frozen?_setCell]; exact h2 j hj
  · rw [List.length_set] at hj
    by_cases hjk : j = k
    · subst hjk
      obtain ⟨v, hv⟩ := Option.isSome_iff_exists.1 hsome
      rw [World.cell?_setCell_same _ _ _ hv, List.getElem_set_self]
    · rw [World.cell?_setCell_other _ _ _ _ (by intro e; injection e with e1 e2; exact hjk e2.symm), List.getElem_set_ne (by omega)]
      exact h3 j hj

theorem Row.facts {w : World} {B g c N : Nat} {l : List UInt8} (h : Row w B (.slice (some ⟨g, 0, none⟩) N c) l) : l.length = N ∧ N ≤ c ∧ B ≤ g ∧ (∀ j, j < N → w.frozen? ⟨g, j, none⟩ = false) ∧ ∀ j (hj : j < l.length), w.cell? ⟨g, j, none⟩ = some (bv l[j]) := by
  obtain ⟨g', c', hv, hB, _, hc, _, _, h2, h3⟩ := h
  cases hv
  exact ⟨rfl, hc, hB, fun j hj => h2 j (by omega), h3⟩

theorem Row.convP {w : World} {B g c N : Nat} {l : List UInt8} (h : Row w B (.slice (some ⟨g, 0, none⟩) N c) l) (kk : Nat) (hk : kk ≤ N) : (convert 43 9 (.slice (some ⟨g, 0, none⟩) kk c)).run Tryd.prog w = .ok (.string ⟨(l.take kk).toArray⟩) w := by
  obtain ⟨hN, _, _, _, hcell⟩ := h.facts
  have hl : (loadCells ⟨g, 0, none⟩ kk).run Tryd.prog w = .ok (((l.take kk).map fun b => (b.toNat : Int)).map (Value.int .u8)).toArray w := by
    have := run_loadCells_list (P := Tryd.prog) w ⟨g, 0, none⟩ (((l.take kk).map fun b => (b.toNat : Int)).map (Value.int .u8)) (fun j u hj => by
      have hjl : j < (l.take kk).length := by
        rcases Nat.lt_or_ge j (l.take kk).length with q | q
        · exact q
        · rw [List.getElem?_eq_none (by simpa using q)] at hj; cases hj
      rw [List.length_take] at hjl
      rw [add_flat, Nat.zero_add, hcell j (by omega)]
      have hq : (l.take kk)[j]? = some l[j] := by rw [List.getElem?_take_of_lt (by omega), List.getElem?_eq_getElem (by omega)]
      rw [List.getElem?_map, List.getElem?_map, hq] at hj
      rw [← hj]; rfl)
    have hlen : (((l.take kk).map fun b => (b.toNat : Int)).map (Value.int .u8)).length = kk := by simp; omega
    rwa [hlen] at this
  rw [run_convert_bytes_string w 43 9 5 _ kk c Tryd.underlying43 Tryd.underlying5 Tryd.underlying9, run_bytesToString w _ kk c _ hl, foldl_push_bytes]
  have hid : ∀ m : List UInt8, (m.map fun b => (b.toNat : Int)).map (fun n => n.toNat.toUInt8) = m := fun m => by
    rw [List.map_map]
    conv => rhs; rw [← List.map_id m]
    apply List.map_congr_left
    intro a _
    simp
  rw [hid]
  simp [ByteArray.empty, ByteArray.emptyWithCapacity]
  rfl

def JC (W : World) (g : Nat) (a b c : Value) : Prop := W.heap[g]? = some (.cells #[a, b, c] 31 (0, 0))
theorem JC.lt {W : World} {g : Nat} {a b c : Value} (h : JC W g a b c) : g < W.heap.size := (Array.getElem?_eq_some_iff.1 (show W.heap[g]? = _ from h)).1
theorem JC.call {W W' : World} {g : Nat} {a b c : Value} (h : JC W g a b c) (hb : Below W.heap.size W W') : JC W' g a b c := (hb.block g h.lt).trans h
theorem JC.new (W : World) (a b c : Value) : JC (W.alloc (.cells #[a, b, c] 31)) W.heap.size a b c := by
  show (W.heap.push (.cells #[a, b, c] 31))[W.heap.size]? = _
  simp
theorem JC.put {W : World} {g : Nat} {a b c : Value} (h : JC W g a b c) (x y z : Value) : JC (((W.setCell ⟨g, 0, none⟩ x).setCell ⟨g, 1, none⟩ y).setCell ⟨g, 2, none⟩ z) g x y z := by
  have h' : W.heap[g]? = some (.cells #[a, b, c] 31 (0, 0)) := h
  show ((((W.setCell ⟨g, 0, none⟩ x).setCell ⟨g, 1, none⟩ y).setCell ⟨g, 2, none⟩ z)).heap[g]? = _
  simp [World.setCell, Array.getElem?_modify, h']
theorem JC.putOther {W : World} {g g' : Nat} {a b c : Value} (h : JC W g a b c) (hne : g ≠ g') (x y z : Value) : JC (((W.setCell ⟨g', 0, none⟩ x).setCell ⟨g', 1, none⟩ y).setCell ⟨g', 2, none⟩ z) g a b c := by
  have h' : W.heap[g]? = some (.cells #[a, b, c] 31 (0, 0)) := h
  show ((((W.setCell ⟨g', 0, none⟩ x).setCell ⟨g', 1, none⟩ y).setCell ⟨g', 2, none⟩ z)).heap[g]? = _
  simp [World.setCell, Array.getElem?_modify, h', Ne.symm hne]
theorem below_putC {B : Nat} {w W : World} (h : Below B w W) {g : Nat} (hg : B ≤ g) (x y z : Value) : Below B w (((W.setCell ⟨g, 0, none⟩ x).setCell ⟨g, 1, none⟩ y).setCell ⟨g, 2, none⟩ z) :=
  ((h.setCell (p := ⟨g, 0, none⟩) hg _).setCell (p := ⟨g, 1, none⟩) hg _).setCell (p := ⟨g, 2, none⟩) hg _
theorem catC (a b : List UInt8) : (⟨a.toArray⟩ : ByteArray) ++ ⟨b.toArray⟩ = ⟨(a ++ b).toArray⟩ := by
  apply ByteArray.ext
  simp

set_option maxHeartbeats 6400000 in
set_option maxRecDepth 100000 in
theorem nameCase_any (x : ByteArray) (br : Option Addr) (nr cr : Nat) (U : Nat → Bool) (w : World) (hU : Ups w br nr U) (hT : Lib.Utf8Tabs 0 1 w) :
    Calls Tryd.prog 7 #[.string x, .slice br nr cr] w fun e w' => e = .returned (.bool true) ∧ Below w.heap.size w w' := by
  go_enter Tryd.func7, Tryd.ntmps7
  go_wp2_with (go_at_call 8; refine (text_any x 200 _ (by omega)).mono ?_; rintro e w1 ⟨s, rfl, hs, rfl⟩; obtain ⟨v, w2, hcv, hR, hb2⟩ := row_conv s w1 (by omega); obtain ⟨g, c, N, rfl, hN, _⟩ := hR.lenN)
  have hlen : s.data.toList.length = s.size := by simp
  obtain ⟨l, hl⟩ : ∃ l, s.data.toList = l := ⟨_, rfl⟩
  rw [hl] at hR hN hlen
  have hN2 : N ≤ 200 := by omega
  go_loopw [7] (fun i wr => ∃ (k : Nat) (cur : List UInt8), k ≤ N ∧ i = .int .i64 k ∧ Row wr w1.heap.size (.slice (some ⟨g, 0, none⟩) N c) cur ∧ cur.length = N ∧ Hid (Cs l cur) ∧ Hid (∀ j, k ≤ j → cur.getD j 0 = l.getD j 0) ∧ Below w1.heap.size w1 wr) (fun i _ => N - (intOf i).toNat)
  case atStart => exact ⟨0, l, by omega, rfl, hR, hN, Cs.refl l, fun _ _ => rfl, hb2⟩
  case round =>
    obtain ⟨k, cur, hk, rfl, hRc, hcl, HC, HS, hbw⟩ := hrel
    by_cases hp : k < N
    · have hpz : (k : Int) < (N : Int) := by omega
      have hk0 : (0 : Int) ≤ (k : Int) := by omega
      obtain ⟨_, _, hBg, hfz, hcell⟩ := hRc.facts
      have hc1 : wr.cell? ⟨g, k, none⟩ = some (.int .u8 ((cur[k]'(by omega)).toNat)) := hcell k (by omega)
      have hf1 : wr.frozen? ⟨g, k, none⟩ = false := hfz k hp
      have hgetk : cur[k]'(by omega) = l.getD k 0 := by
        have := HS.out k (Nat.le_refl _)
        rw [← this, List.getD, List.getElem?_eq_getElem (by omega)]; rfl
      obtain ⟨b, hbq⟩ : ∃ b, cur[k]'(by omega) = b := ⟨_, rfl⟩
      rw [hbq] at hc1 hgetk
      have HG : Hid (b = l.getD k 0) := hgetk
      clear hcell hfz hbq hgetk
      have skip : Hid ((∃ (k_1 : Nat) (cur : List UInt8), k_1 ≤ N ∧ Value.int .i64 ((k : Int) + 1) = .int .i64 k_1 ∧ Row wr w1.heap.size (.slice (some ⟨g, 0, none⟩) N c) cur ∧ cur.length = N ∧ Hid (Cs l cur) ∧ Hid (∀ j, k_1 ≤ j → cur.getD j 0 = l.getD j 0) ∧ Below w1.heap.size w1 wr) ∧ N - (intOf (Value.int .i64 ((k : Int) + 1))).toNat < N - (intOf (Value.int .i64 (k : Int))).toNat) :=
        ⟨⟨k + 1, cur, by omega, by simp, hRc, hcl, HC, fun j hj => HS.out j (by omega), hbw⟩, by simp [intOf]; omega⟩
      by_cases hn : k < nr
      · have hnz : (k : Int) < (nr : Int) := by omega
        obtain ⟨ub, uo, rfl, hu⟩ := hU.flat (by omega)
        have huk := hu k hn
        have hu1 : wr.cell? ⟨ub, uo + k, none⟩ = some (.bool (U k)) := (hbw.cell (p := ⟨ub, uo + k, none⟩) (World.block_lt_of_cell? w1 _ huk)).trans huk
        generalize U k = ubit at hu1
        cases ubit with
        | false =>
          go_wp2
          exact skip.out
        | true =>
          by_cases ha : (97 : Int) ≤ (b.toNat : Int)
          · have d97 : decide ((97 : Int) ≤ (b.toNat : Int)) = true := decide_eq_true ha
            by_cases hz : (b.toNat : Int) ≤ 122
            · have d122 : decide ((b.toNat : Int) ≤ 122) = true := decide_eq_true hz
              obtain ⟨y, hy⟩ : ∃ y : UInt8, (y.toNat : Int) = (b.toNat : Int) - 32 := ⟨(b.toNat - 32).toUInt8, by have := b.toNat_lt; simp; omega⟩
              have hput := hRc.put (k := k) (by omega) y
              rw [show bv y = .int .u8 ((b.toNat : Int) - 32) by unfold bv; rw [hy]] at hput
              have FIN : Hid (Cs l (cur.set k y)) := by
                refine ⟨by rw [List.length_set]; exact HC.out.1, fun i => ?_⟩
                by_cases hik : i = k
                · subst hik
                  have e : (cur.set i y).getD i 0 = y := by rw [List.getD, List.getElem?_set_self (by omega)]; rfl
                  rw [e, ← HG.out]
                  exact .inr ⟨by omega, by omega, by omega⟩
                · have e : (cur.set k y).getD i 0 = cur.getD i 0 := by rw [List.getD, List.getElem?_set_ne (by omega)]; rfl
                  rw [e]
                  exact HC.out.2 i
              have FIS : Hid (∀ j, k + 1 ≤ j → (cur.set k y).getD j 0 = l.getD j 0) := fun j hj => by
                have e : (cur.set k y).getD j 0 = cur.getD j 0 := by rw [List.getD, List.getElem?_set_ne (by omega)]; rfl
                rw [e]
                exact HS.out j (by omega)
              have HP : Hid _ := hput
              clear hput
              go_wp2
              exact ⟨⟨k + 1, cur.set k y, by omega, by simp, HP.out, by rw [List.length_set]; exact hcl, FIN, FIS, hbw.setCell (p := ⟨g, k, none⟩) hBg _⟩, by simp [intOf]; omega⟩
            · have hz' : (122 : Int) < (b.toNat : Int) := by omega
              have d122 : decide ((b.toNat : Int) ≤ 122) = false := decide_eq_false hz
              go_wp2
              exact skip.out
          · have ha' : (b.toNat : Int) < 97 := by omega
            have d97 : decide ((97 : Int) ≤ (b.toNat : Int)) = false := decide_eq_false ha
            go_wp2
            exact skip.out
      · have hnz : (nr : Int) ≤ (k : Int) := by omega
        go_wp2
        exact skip.out
    · have hkN : k = N := by omega
      have hpz : (N : Int) ≤ (k : Int) := by omega
      clear HS
      have hcz : cur.length ≤ 200 := by omega
      obtain ⟨x1, n1, h1⟩ : ∃ x n, localN l = (x, n) := ⟨_, _, rfl⟩
      obtain ⟨x2, n2, h2⟩ : ∃ x n, hostN l = (x, n) := ⟨_, _, rfl⟩
      have l1 : ∀ W, Lib.Utf8Tabs 0 1 W → Calls Tryd.prog 9 #[.string s] W fun e W' => e = .returned (.tuple #[.string ⟨x1.toArray⟩, .int .i64 n1]) ∧ Below W.heap.size W W' := fun W hW => by
        have := local_any s W (by omega) hW
        rw [hl, h1] at this; exact this
      have l2 : ∀ W, Lib.Utf8Tabs 0 1 W → Calls Tryd.prog 9 #[.string ⟨cur.toArray⟩] W fun e W' => e = .returned (.tuple #[.string ⟨x1.toArray⟩, .int .i64 n1]) ∧ Below W.heap.size W W' := fun W hW => by
        have := local_any ⟨cur.toArray⟩ W (by rw [arr_size]; omega) hW
        rw [back_list, ← local_cs HC.out, h1] at this; exact this
      have o1 : ∀ W, Lib.Utf8Tabs 0 1 W → Calls Tryd.prog 11 #[.string s] W fun e W' => e = .returned (.tuple #[.string ⟨x2.toArray⟩, .int .i64 n2]) ∧ Below W.heap.size W W' := fun W hW => by
        have := host_any s W (by omega) hW
        rw [hl, h2] at this; exact this
      have o2 : ∀ W, Lib.Utf8Tabs 0 1 W → Calls Tryd.prog 11 #[.string ⟨cur.toArray⟩] W fun e W' => e = .returned (.tuple #[.string ⟨x2.toArray⟩, .int .i64 n2]) ∧ Below W.heap.size W W' := fun W hW => by
        have := host_any ⟨cur.toArray⟩ W (by rw [arr_size]; omega) hW
        rw [back_list, ← host_cs HC.out, h2] at this; exact this
      have whole : ∀ W, Row W w1.heap.size (.slice (some ⟨g, 0, none⟩) N c) cur → (convert 43 9 (.slice (some ⟨g, 0, none⟩) N c)).run Tryd.prog W = .ok (.string ⟨cur.toArray⟩) W := fun W hW => by
        have := hW.convP N (Nat.le_refl _)
        rwa [List.take_of_length_le (by omega)] at this
      have tL : True := trivial
      have tH : True := trivial
      go_wp2_with (first
        | (go_at_call 9; clear tL; refine (l1 _ (tabs_below hT hbw)).mono ?_; rintro e w3 ⟨rfl, hb3⟩; have b3 := hbw.trans (hb3.mono hbw.size); have R3 := hRc.carry hb3; have v3 := whole _ R3)
        | (go_at_call 9; refine (l2 _ (tabs_below hT b3)).mono ?_; rintro e w4 ⟨rfl, hb4⟩; have b4 := b3.trans (hb4.mono b3.size); have R4 := R3.carry hb4)
        | (go_at_call 11; clear tH; refine (o1 _ (tabs_below hT b4)).mono ?_; rintro e w5 ⟨rfl, hb5⟩; have b5 := b4.trans (hb5.mono b4.size); have R5 := R4.carry hb5; have v5 := whole _ R5)
        | (go_at_call 11; refine (o2 _ (tabs_below hT b5)).mono ?_; rintro e w6 ⟨rfl, hb6⟩; have b6 := b5.trans (hb6.mono b5.size); have R6 := R5.carry hb6))
      obtain ⟨_, hNc, _, _, hcell⟩ := R6.facts
      have HCE : Hid (∀ j (hj : j < cur.length), w6.cell? ⟨g, j, none⟩ = some (bv cur[j])) := hcell
      clear hcell
      go_loop [12, 13] (fun q i => ∃ (kk n : Nat), n ≤ N ∧ kk ≤ N ∧ q = .int .i64 kk ∧ i = .int .i64 n ∧ Hid ((kk = N ∧ ∀ j, j < n → cur.getD j 0 ≠ 47) ∨ (kk < N ∧ ix 47 cur = kk))) (fun _ i => N - (intOf i).toNat)
      case atStart => exact ⟨N, 0, by omega, by omega, rfl, rfl, .inl ⟨rfl, fun j hj => by omega⟩⟩
      case round =>
        obtain ⟨kk, n, hn, hkk, rfl, rfl, HI⟩ := hrel
        by_cases hnN : n < N ∧ kk = N
        · obtain ⟨q1, q2⟩ := hnN
          subst q2
          have q3 : (n : Int) < (kk : Int) := by omega
          have q4 : (0 : Int) ≤ (n : Int) := by omega
          have hc1 : w6.cell? ⟨g, n, none⟩ = some (.int .u8 ((cur[n]'(by omega)).toNat)) := HCE.out n (by omega)
          obtain ⟨b, hbq⟩ : ∃ b, cur[n]'(by omega) = b := ⟨_, rfl⟩
          rw [hbq] at hc1
          have HB : Hid (cur[n]'(by omega) = b) := hbq
          clear hbq
          have hno : Hid (∀ j, j < n → cur.getD j 0 ≠ 47) := by
            rcases HI.out with q | q
            · exact q.2
            · omega
          by_cases hb47 : b = 47
          · have e1 : ((b.toNat : Int) == 47) = true := by rw [hb47]; rfl
            have HX : Hid (ix 47 cur = n) := ix_skip' (by omega) hno.out (HB.out.trans hb47)
            clear hb47
            go_wp2
            exact ⟨⟨n, n + 1, by omega, by omega, rfl, by simp, .inr ⟨q1, HX.out⟩⟩, by simp [intOf]; omega⟩
          · have e1 : ((b.toNat : Int) == 47) = false := by
              have : b.toNat ≠ 47 := fun h => hb47 (UInt8.toNat_inj.1 h)
              simp; omega
            have HX : Hid (∀ j, j < n + 1 → cur.getD j 0 ≠ 47) := fun j hj => by
              by_cases hjn : j = n
              · subst hjn
                rw [List.getD, List.getElem?_eq_getElem (by omega), HB.out]
                exact hb47
              · exact hno.out j (by omega)
            clear hb47
            go_wp2
            exact ⟨⟨kk, n + 1, by omega, by omega, rfl, by simp, .inl ⟨rfl, HX.out⟩⟩, by simp [intOf]; omega⟩
        · have hK : ix 47 cur = kk := by
            rcases HI.out with ⟨q, q'⟩ | q
            · have h0 := ix_none' (c := 47) (l := cur) (fun j hj => q' j (by omega))
              have h1 := ix_le 47 cur
              omega
            · exact q.2
          obtain ⟨p, m, hp⟩ : ∃ p m, parseN l = (p, m) := ⟨_, _, rfl⟩
          have P1 : ∀ W, Lib.Utf8Tabs 0 1 W → Calls Tryd.prog 16 #[.string s] W fun e W' => e = .returned (.tuple #[.agg #[.string ⟨p.l.toArray⟩, .string ⟨p.h.toArray⟩, .string ⟨p.r.toArray⟩], .int .i64 m]) ∧ Below W.heap.size W W' := fun W hW => by
            have h := parse_any s.data.toList W (by rw [size_list]; omega) hW
            rw [back_arr, hl, hp] at h; exact h
          have P2 : ∀ W, Lib.Utf8Tabs 0 1 W → Calls Tryd.prog 16 #[.string ⟨(cur.take kk ++ l.drop kk).toArray⟩] W fun e W' => e = .returned (.tuple #[.agg #[.string ⟨p.l.toArray⟩, .string ⟨p.h.toArray⟩, .string ⟨p.r.toArray⟩], .int .i64 m]) ∧ Below W.heap.size W W' := fun W hW => by
            have h := parse_any (cur.take kk ++ l.drop kk) W (by rw [List.length_append, List.length_take, List.length_drop]; omega) hW
            have e := parse_cs HC.out
            rw [hK] at e
            rw [← e, hp] at h; exact h
          have x2 : s.extract kk s.size = ⟨(l.drop kk).toArray⟩ := by rw [← hl]; rw [Lib.extract_eq, List.take_of_length_le (by rw [List.length_drop]; simp)]
          have hcat : (⟨(cur.take kk).toArray⟩ : ByteArray) ++ ⟨(l.drop kk).toArray⟩ = ⟨(cur.take kk ++ l.drop kk).toArray⟩ := catC _ _
          have hsz : (⟨(cur.take kk).toArray⟩ : ByteArray).size + (⟨(l.drop kk).toArray⟩ : ByteArray).size ≤ 9223372036854775807 := by
            rw [arr_size, arr_size, List.length_take, List.length_drop]; omega
          by_cases hcont : n < N
          · have q1 : (n : Int) < (N : Int) := by omega
            have q2 : ((kk : Int) == (N : Int)) = false := by simp; omega
            go_upto_region 23 with (go_at_call 16; refine (P1 _ (tabs_below hT b6)).mono ?_; rintro e w7 ⟨rfl, hb7⟩; have b7 := b6.trans (hb7.mono b6.size); have R7 := R6.carry hb7)
            go_cut [11, 15] from 121 to 132 (fun fv mv wx => ∃ bb, mv = .pointer (some ⟨bb, 0, none⟩) ∧ fv = .int .i64 m ∧ JC wx w7.heap.size (.string ⟨p.l.toArray⟩) (.string ⟨p.h.toArray⟩) (.string ⟨p.r.toArray⟩) ∧ JC wx bb (.string ⟨p.l.toArray⟩) (.string ⟨p.h.toArray⟩) (.string ⟨p.r.toArray⟩) ∧ Below w1.heap.size w1 wx)
            case first =>
              have hE7 : Ext w7 (World.drew (w7.alloc (.cells #[.string ⟨p.l.toArray⟩, .string ⟨p.h.toArray⟩, .string ⟨p.r.toArray⟩] 31))) := Ext.drew (below_new w7 _)
              have J8 : JC (World.drew (w7.alloc (.cells #[.string ⟨p.l.toArray⟩, .string ⟨p.h.toArray⟩, .string ⟨p.r.toArray⟩] 31))) w7.heap.size _ _ _ := JC.new w7 (.string ⟨p.l.toArray⟩) (.string ⟨p.h.toArray⟩) (.string ⟨p.r.toArray⟩)
              have R8 := R7.carry hE7
              have b8 := b7.trans (Below.mono hE7 b7.size)
              refine wp_region_plan (.rd 0 <| .rd 1 <| .rd 2 <| .rd 3 <| .rd 4 <| .rd 5 <| .rd 6 <| .rd 7 <| .two 8 (.rd 9 <| .rd 10 <| .rd 11 <| .one 12 <| .one 13 <| .one 14 .nil) 12 (.one 8 <| .rd 9 <| .rd 10 <| .rd 11 <| .one 13 <| .one 14 .nil)) (Ext (World.drew (w7.alloc (.cells #[.string ⟨p.l.toArray⟩, .string ⟨p.h.toArray⟩, .string ⟨p.r.toArray⟩] 31)))) (by kernel_rfl) (by kernel_rfl) (by kernel_rfl) ?_
              generalize World.drew (w7.alloc (.cells #[.string ⟨p.l.toArray⟩, .string ⟨p.h.toArray⟩, .string ⟨p.r.toArray⟩] 31)) = W0 at J8 R8 b8 ⊢
              have HS : Ext W0 W0 := Ext.refl _
              refine planX_rd (.slice (some ⟨g, 0, none⟩) N c) (by kernel_rfl) (fun _ _ d _ _ h => by cases d <;> exact h) (by exact HS) rfl rfl rfl (fun w' hE => ?hA0) ?_
              case hA0 => first | (go_simp; rfl) | go_simp
              simp only [List.setIfInBounds_toArray, List.set_cons_zero, List.set_cons_succ]
              refine planX_rd (.int .i64 kk) (by kernel_rfl) (fun _ _ d _ _ h => by cases d <;> exact h) (by exact HS) rfl rfl rfl (fun w' hE => ?hA1) ?_
              case hA1 => first | (go_simp; rfl) | go_simp
              simp only [List.setIfInBounds_toArray, List.set_cons_zero, List.set_cons_succ]
              refine planX_rd (.slice (some ⟨g, 0, none⟩) kk c) (by kernel_rfl) (fun _ _ d _ _ h => by cases d <;> exact h) (by exact HS) rfl rfl rfl (fun w' hE => ?hA2) ?_
              case hA2 => have z1 : (kk : Int) ≤ (c : Int) := (by omega); have z0 : (0 : Int) ≤ (kk : Int) := (by omega); first | (go_simp; rfl) | go_simp
              simp only [List.setIfInBounds_toArray, List.set_cons_zero, List.set_cons_succ]
              refine planX_rd (.string ⟨(cur.take kk).toArray⟩) (by kernel_rfl) (fun _ _ d _ _ h => by cases d <;> exact h) (by exact HS) rfl rfl rfl (fun w' hE => ?hA3) ?_
              case hA3 => have q := (R8.carry hE).convP kk hkk; first | (go_simp; rfl) | go_simp
              simp only [List.setIfInBounds_toArray, List.set_cons_zero, List.set_cons_succ]
              refine planX_rd (.string s) (by kernel_rfl) (fun _ _ d _ _ h => by cases d <;> exact h) (by exact HS) rfl rfl rfl (fun w' hE => ?hA4) ?_
              case hA4 => first | (go_simp; rfl) | go_simp
              simp only [List.setIfInBounds_toArray, List.set_cons_zero, List.set_cons_succ]
              refine planX_rd (.int .i64 kk) (by kernel_rfl) (fun _ _ d _ _ h => by cases d <;> exact h) (by exact HS) rfl rfl rfl (fun w' hE => ?hA5) ?_
              case hA5 => first | (go_simp; rfl) | go_simp
              simp only [List.setIfInBounds_toArray, List.set_cons_zero, List.set_cons_succ]
              refine planX_rd (.string ⟨(l.drop kk).toArray⟩) (by kernel_rfl) (fun _ _ d _ _ h => by cases d <;> exact h) (by exact HS) rfl rfl rfl (fun w' hE => ?hA6) ?_
              case hA6 => have q := x2; have z1 : (kk : Int) ≤ (s.size : Int) := (by omega); have z0 : (0 : Int) ≤ (kk : Int) := (by omega); first | (go_simp; rfl) | go_simp
              simp only [List.setIfInBounds_toArray, List.set_cons_zero, List.set_cons_succ]
              refine planX_rd (.string ⟨(cur.take kk ++ l.drop kk).toArray⟩) (by kernel_rfl) (fun _ _ d _ _ h => by cases d <;> exact h) (by exact HS) rfl rfl rfl (fun w' hE => ?hA7) ?_
              case hA7 => have q := hcat; have q2 := hsz; (go_simp; omega)
              simp only [List.setIfInBounds_toArray, List.set_cons_zero, List.set_cons_succ]
              refine planX_two ?f8A ?f12A
              case f8A =>
                refine stepX_call 16 #[.string ⟨(cur.take kk ++ l.drop kk).toArray⟩] rfl rfl rfl ?rA ?_
                case rA => first | (go_simp; rfl) | go_simp
                refine (P2 _ (tabs_below hT b8)).mono ?_
                rintro e w9 ⟨rfl, hb9⟩
                refine ⟨_, rfl, hb9, ?_⟩
                replace HS : Ext W0 w9 := hb9
                have J9 := J8.call hb9
                have b9 := b8.trans (hb9.mono b8.size)
                simp only [List.setIfInBounds_toArray, List.set_cons_zero, List.set_cons_succ]
                refine planX_rd (.tuple #[.agg #[.string ⟨p.l.toArray⟩, .string ⟨p.h.toArray⟩, .string ⟨p.r.toArray⟩], .int .i64 m]) (by kernel_rfl) (fun _ _ d _ _ h => by cases d <;> exact h) (by exact HS) rfl rfl rfl (fun w' hE => ?hAA9) ?_
                case hAA9 => first | (go_simp; rfl) | go_simp
                simp only [List.setIfInBounds_toArray, List.set_cons_zero, List.set_cons_succ]
                refine planX_rd (.agg #[.string ⟨p.l.toArray⟩, .string ⟨p.h.toArray⟩, .string ⟨p.r.toArray⟩]) (by kernel_rfl) (fun _ _ d _ _ h => by cases d <;> exact h) (by exact HS) rfl rfl rfl (fun w' hE => ?hAA10) ?_
                case hAA10 => first | (go_simp; rfl) | go_simp
                simp only [List.setIfInBounds_toArray, List.set_cons_zero, List.set_cons_succ]
                refine planX_rd (.int .i64 m) (by kernel_rfl) (fun _ _ d _ _ h => by cases d <;> exact h) (by exact HS) rfl rfl rfl (fun w' hE => ?hAA11) ?_
                case hAA11 => first | (go_simp; rfl) | go_simp
                simp only [List.setIfInBounds_toArray, List.set_cons_zero, List.set_cons_succ]
                refine planX_one ?_
                refine stepX_valD (w' := w9.alloc (.cells #[.string ⟨#[]⟩, .string ⟨#[]⟩, .string ⟨#[]⟩] 31)) (.pointer (some ⟨w9.heap.size, 0, none⟩)) rfl rfl rfl ?rAA ?sAA ?_
                case rAA => first | (go_simp; rfl) | go_simp
                case sAA => exact Ext.trans HS (below_new w9 _)
                replace HS : Ext W0 (w9.alloc (.cells #[.string ⟨#[]⟩, .string ⟨#[]⟩, .string ⟨#[]⟩] 31)) := Ext.trans HS (below_new w9 _)
                have J10 := J9.call (below_new w9 (.cells #[.string ⟨#[]⟩, .string ⟨#[]⟩, .string ⟨#[]⟩] 31))
                have b10 := b9.alloc b9.size (.cells #[.string ⟨#[]⟩, .string ⟨#[]⟩, .string ⟨#[]⟩] 31)
                have hg9 : W0.heap.size ≤ w9.heap.size := hb9.size
                have hg9' : w1.heap.size ≤ w9.heap.size := b9.size
                have M10 := JC.new w9 (.string ⟨#[]⟩) (.string ⟨#[]⟩) (.string ⟨#[]⟩)
                have hlt := J9.lt
                simp only [List.setIfInBounds_toArray, List.set_cons_zero, List.set_cons_succ]
                generalize hW10 : w9.alloc (.cells #[.string ⟨#[]⟩, .string ⟨#[]⟩, .string ⟨#[]⟩] 31) = w10 at HS J10 b10 M10 ⊢
                have c0 := cell_three0 M10; have c1 := cell_three1 M10; have c2 := cell_three2 M10; have t0 := thaw_three M10 0; have t1 := thaw_three M10 1; have t2 := thaw_three M10 2
                refine planX_one ?_
                refine stepX_skipN (w' := (((w10.setCell ⟨w9.heap.size, 0, none⟩ (.string ⟨p.l.toArray⟩)).setCell ⟨w9.heap.size, 1, none⟩ (.string ⟨p.h.toArray⟩)).setCell ⟨w9.heap.size, 2, none⟩ (.string ⟨p.r.toArray⟩))) rfl rfl rfl ?r3AA ?s3AA ?_
                case r3AA => first | (go_simp; rfl) | go_simp
                case s3AA => exact below_putC HS hg9 _ _ _
                refine planX_one ?_
                refine stepX_valD (w' := (((w10.setCell ⟨w9.heap.size, 0, none⟩ (.string ⟨p.l.toArray⟩)).setCell ⟨w9.heap.size, 1, none⟩ (.string ⟨p.h.toArray⟩)).setCell ⟨w9.heap.size, 2, none⟩ (.string ⟨p.r.toArray⟩))) (.int .i64 m) rfl rfl rfl ?r4AA ?s4AA ?_
                case r4AA => first | (go_simp; rfl) | go_simp
                case s4AA => exact below_putC HS hg9 _ _ _
                simp only [List.setIfInBounds_toArray, List.set_cons_zero, List.set_cons_succ]
                refine planX_nil ?_
                go_wp2
                go_meet
                exact ⟨_, rfl, rfl, J10.putOther (by omega) _ _ _, M10.put _ _ _, below_putC b10 hg9' _ _ _⟩
              case f12A =>
                refine stepX_valD (w' := W0.alloc (.cells #[.string ⟨#[]⟩, .string ⟨#[]⟩, .string ⟨#[]⟩] 31)) (.pointer (some ⟨W0.heap.size, 0, none⟩)) rfl rfl rfl ?rAB ?sAB ?_
                case rAB => first | (go_simp; rfl) | go_simp
                case sAB => exact Ext.trans HS (below_new W0 _)
                replace HS : Ext W0 (W0.alloc (.cells #[.string ⟨#[]⟩, .string ⟨#[]⟩, .string ⟨#[]⟩] 31)) := Ext.trans HS (below_new W0 _)
                have J9 := J8.call (below_new W0 (.cells #[.string ⟨#[]⟩, .string ⟨#[]⟩, .string ⟨#[]⟩] 31))
                have b9 := b8.alloc b8.size (.cells #[.string ⟨#[]⟩, .string ⟨#[]⟩, .string ⟨#[]⟩] 31)
                have hg9 : W0.heap.size ≤ W0.heap.size := Nat.le_refl _
                have hg9' : w1.heap.size ≤ W0.heap.size := b8.size
                have M9 := JC.new W0 (.string ⟨#[]⟩) (.string ⟨#[]⟩) (.string ⟨#[]⟩)
                have hlt := J8.lt
                simp only [List.setIfInBounds_toArray, List.set_cons_zero, List.set_cons_succ]
                generalize hW9 : W0.alloc (.cells #[.string ⟨#[]⟩, .string ⟨#[]⟩, .string ⟨#[]⟩] 31) = w9 at HS J9 b9 M9 ⊢
                refine planX_one ?_
                refine stepX_call 16 #[.string ⟨(cur.take kk ++ l.drop kk).toArray⟩] rfl rfl rfl ?r2A ?_
                case r2A => first | (go_simp; rfl) | go_simp
                refine (P2 _ (tabs_below hT b9)).mono ?_
                rintro e w10 ⟨rfl, hb10⟩
                have HS10 : Ext W0 w10 := Ext.trans HS hb10
                refine ⟨_, rfl, HS10, ?_⟩
                replace HS := HS10
                have J10 := J9.call hb10
                have M10 := M9.call hb10
                have b10 := b9.trans (hb10.mono b9.size)
                simp only [List.setIfInBounds_toArray, List.set_cons_zero, List.set_cons_succ]
                refine planX_rd (.tuple #[.agg #[.string ⟨p.l.toArray⟩, .string ⟨p.h.toArray⟩, .string ⟨p.r.toArray⟩], .int .i64 m]) (by kernel_rfl) (fun _ _ d _ _ h => by cases d <;> exact h) (by exact HS) rfl rfl rfl (fun w' hE => ?hAB9) ?_
                case hAB9 => first | (go_simp; rfl) | go_simp
                simp only [List.setIfInBounds_toArray, List.set_cons_zero, List.set_cons_succ]
                refine planX_rd (.agg #[.string ⟨p.l.toArray⟩, .string ⟨p.h.toArray⟩, .string ⟨p.r.toArray⟩]) (by kernel_rfl) (fun _ _ d _ _ h => by cases d <;> exact h) (by exact HS) rfl rfl rfl (fun w' hE => ?hAB10) ?_
                case hAB10 => first | (go_simp; rfl) | go_simp
                simp only [List.setIfInBounds_toArray, List.set_cons_zero, List.set_cons_succ]
                refine planX_rd (.int .i64 m) (by kernel_rfl) (fun _ _ d _ _ h => by cases d <;> exact h) (by exact HS) rfl rfl rfl (fun w' hE => ?hAB11) ?_
                case hAB11 => first | (go_simp; rfl) | go_simp
                simp only [List.setIfInBounds_toArray, List.set_cons_zero, List.set_cons_succ]
                have c0 := cell_three0 M10; have c1 := cell_three1 M10; have c2 := cell_three2 M10; have t0 := thaw_three M10 0; have t1 := thaw_three M10 1; have t2 := thaw_three M10 2
                refine planX_one ?_
                refine stepX_skipN (w' := (((w10.setCell ⟨W0.heap.size, 0, none⟩ (.string ⟨p.l.toArray⟩)).setCell ⟨W0.heap.size, 1, none⟩ (.string ⟨p.h.toArray⟩)).setCell ⟨W0.heap.size, 2, none⟩ (.string ⟨p.r.toArray⟩))) rfl rfl rfl ?r3AB ?s3AB ?_
                case r3AB => first | (go_simp; rfl) | go_simp
                case s3AB => exact below_putC HS hg9 _ _ _
                refine planX_one ?_
                refine stepX_valD (w' := (((w10.setCell ⟨W0.heap.size, 0, none⟩ (.string ⟨p.l.toArray⟩)).setCell ⟨W0.heap.size, 1, none⟩ (.string ⟨p.h.toArray⟩)).setCell ⟨W0.heap.size, 2, none⟩ (.string ⟨p.r.toArray⟩))) (.int .i64 m) rfl rfl rfl ?r4AB ?s4AB ?_
                case r4AB => first | (go_simp; rfl) | go_simp
                case s4AB => exact below_putC HS hg9 _ _ _
                simp only [List.setIfInBounds_toArray, List.set_cons_zero, List.set_cons_succ]
                refine planX_nil ?_
                go_wp2
                go_meet
                exact ⟨_, rfl, rfl, J10.putOther (by omega) _ _ _, M10.put _ _ _, below_putC b10 hg9' _ _ _⟩
            case rest =>
            obtain ⟨bb, rfl, rfl, J11, M11, b11⟩ := hcut
            have c0 := cell_three0 J11; have c1 := cell_three1 J11; have c2 := cell_three2 J11; have d0 := cell_three0 M11; have d1 := cell_three1 M11; have d2 := cell_three2 M11
            go_wp2_with (go_at_call 15; refine (wakes_any _ (tabs_below hT b11)).mono ?_; rintro e w12 ⟨rfl, hb12⟩)
            go_ret
            exact ⟨rfl, b11.trans (hb12.mono b11.size)⟩
          · have q1 : (N : Int) ≤ (n : Int) := by omega
            go_upto_region 23 with (go_at_call 16; refine (P1 _ (tabs_below hT b6)).mono ?_; rintro e w7 ⟨rfl, hb7⟩; have b7 := b6.trans (hb7.mono b6.size); have R7 := R6.carry hb7)
            go_cut [11, 15] from 121 to 132 (fun fv mv wx => ∃ bb, mv = .pointer (some ⟨bb, 0, none⟩) ∧ fv = .int .i64 m ∧ JC wx w7.heap.size (.string ⟨p.l.toArray⟩) (.string ⟨p.h.toArray⟩) (.string ⟨p.r.toArray⟩) ∧ JC wx bb (.string ⟨p.l.toArray⟩) (.string ⟨p.h.toArray⟩) (.string ⟨p.r.toArray⟩) ∧ Below w1.heap.size w1 wx)
            case first =>
              have hE7 : Ext w7 (World.drew (w7.alloc (.cells #[.string ⟨p.l.toArray⟩, .string ⟨p.h.toArray⟩, .string ⟨p.r.toArray⟩] 31))) := Ext.drew (below_new w7 _)
              have J8 : JC (World.drew (w7.alloc (.cells #[.string ⟨p.l.toArray⟩, .string ⟨p.h.toArray⟩, .string ⟨p.r.toArray⟩] 31))) w7.heap.size _ _ _ := JC.new w7 (.string ⟨p.l.toArray⟩) (.string ⟨p.h.toArray⟩) (.string ⟨p.r.toArray⟩)
              have R8 := R7.carry hE7
              have b8 := b7.trans (Below.mono hE7 b7.size)
              refine wp_region_plan (.rd 0 <| .rd 1 <| .rd 2 <| .rd 3 <| .rd 4 <| .rd 5 <| .rd 6 <| .rd 7 <| .two 8 (.rd 9 <| .rd 10 <| .rd 11 <| .one 12 <| .one 13 <| .one 14 .nil) 12 (.one 8 <| .rd 9 <| .rd 10 <| .rd 11 <| .one 13 <| .one 14 .nil)) (Ext (World.drew (w7.alloc (.cells #[.string ⟨p.l.toArray⟩, .string ⟨p.h.toArray⟩, .string ⟨p.r.toArray⟩] 31)))) (by kernel_rfl) (by kernel_rfl) (by kernel_rfl) ?_
              generalize World.drew (w7.alloc (.cells #[.string ⟨p.l.toArray⟩, .string ⟨p.h.toArray⟩, .string ⟨p.r.toArray⟩] 31)) = W0 at J8 R8 b8 ⊢
              have HS : Ext W0 W0 := Ext.refl _
              refine planX_rd (.slice (some ⟨g, 0, none⟩) N c) (by kernel_rfl) (fun _ _ d _ _ h => by cases d <;> exact h) (by exact HS) rfl rfl rfl (fun w' hE => ?hB0) ?_
              case hB0 => first | (go_simp; rfl) | go_simp
              simp only [List.setIfInBounds_toArray, List.set_cons_zero, List.set_cons_succ]
              refine planX_rd (.int .i64 kk) (by kernel_rfl) (fun _ _ d _ _ h => by cases d <;> exact h) (by exact HS) rfl rfl rfl (fun w' hE => ?hB1) ?_
              case hB1 => first | (go_simp; rfl) | go_simp
              simp only [List.setIfInBounds_toArray, List.set_cons_zero, List.set_cons_succ]
              refine planX_rd (.slice (some ⟨g, 0, none⟩) kk c) (by kernel_rfl) (fun _ _ d _ _ h => by cases d <;> exact h) (by exact HS) rfl rfl rfl (fun w' hE => ?hB2) ?_
              case hB2 => have z1 : (kk : Int) ≤ (c : Int) := (by omega); have z0 : (0 : Int) ≤ (kk : Int) := (by omega); first | (go_simp; rfl) | go_simp
              simp only [List.setIfInBounds_toArray, List.set_cons_zero, List.set_cons_succ]
              refine planX_rd (.string ⟨(cur.take kk).toArray⟩) (by kernel_rfl) (fun _ _ d _ _ h => by cases d <;> exact h) (by exact HS) rfl rfl rfl (fun w' hE => ?hB3) ?_
              case hB3 => have q := (R8.carry hE).convP kk hkk; first | (go_simp; rfl) | go_simp
              simp only [List.setIfInBounds_toArray, List.set_cons_zero, List.set_cons_succ]
              refine planX_rd (.string s) (by kernel_rfl) (fun _ _ d _ _ h => by cases d <;> exact h) (by exact HS) rfl rfl rfl (fun w' hE => ?hB4) ?_
              case hB4 => first | (go_simp; rfl) | go_simp
              simp only [List.setIfInBounds_toArray, List.set_cons_zero, List.set_cons_succ]
              refine planX_rd (.int .i64 kk) (by kernel_rfl) (fun _ _ d _ _ h => by cases d <;> exact h) (by exact HS) rfl rfl rfl (fun w' hE => ?hB5) ?_
              case hB5 => first | (go_simp; rfl) | go_simp
              simp only [List.setIfInBounds_toArray, List.set_cons_zero, List.set_cons_succ]
              refine planX_rd (.string ⟨(l.drop kk).toArray⟩) (by kernel_rfl) (fun _ _ d _ _ h => by cases d <;> exact h) (by exact HS) rfl rfl rfl (fun w' hE => ?hB6) ?_
              case hB6 => have q := x2; have z1 : (kk : Int) ≤ (s.size : Int) := (by omega); have z0 : (0 : Int) ≤ (kk : Int) := (by omega); first | (go_simp; rfl) | go_simp
              simp only [List.setIfInBounds_toArray, List.set_cons_zero, List.set_cons_succ]
              refine planX_rd (.string ⟨(cur.take kk ++ l.drop kk).toArray⟩) (by kernel_rfl) (fun _ _ d _ _ h => by cases d <;> exact h) (by exact HS) rfl rfl rfl (fun w' hE => ?hB7) ?_
              case hB7 => have q := hcat; have q2 := hsz; (go_simp; omega)
              simp only [List.setIfInBounds_toArray, List.set_cons_zero, List.set_cons_succ]
              refine planX_two ?f8B ?f12B
              case f8B =>
                refine stepX_call 16 #[.string ⟨(cur.take kk ++ l.drop kk).toArray⟩] rfl rfl rfl ?rB ?_
                case rB => first | (go_simp; rfl) | go_simp
                refine (P2 _ (tabs_below hT b8)).mono ?_
                rintro e w9 ⟨rfl, hb9⟩
                refine ⟨_, rfl, hb9, ?_⟩
                replace HS : Ext W0 w9 := hb9
                have J9 := J8.call hb9
                have b9 := b8.trans (hb9.mono b8.size)
                simp only [List.setIfInBounds_toArray, List.set_cons_zero, List.set_cons_succ]
                refine planX_rd (.tuple #[.agg #[.string ⟨p.l.toArray⟩, .string ⟨p.h.toArray⟩, .string ⟨p.r.toArray⟩], .int .i64 m]) (by kernel_rfl) (fun _ _ d _ _ h => by cases d <;> exact h) (by exact HS) rfl rfl rfl (fun w' hE => ?hBA9) ?_
                case hBA9 => first | (go_simp; rfl) | go_simp
                simp only [List.setIfInBounds_toArray, List.set_cons_zero, List.set_cons_succ]
                refine planX_rd (.agg #[.string ⟨p.l.toArray⟩, .string ⟨p.h.toArray⟩, .string ⟨p.r.toArray⟩]) (by kernel_rfl) (fun _ _ d _ _ h => by cases d <;> exact h) (by exact HS) rfl rfl rfl (fun w' hE => ?hBA10) ?_
                case hBA10 => first | (go_simp; rfl) | go_simp
                simp only [List.setIfInBounds_toArray, List.set_cons_zero, List.set_cons_succ]
                refine planX_rd (.int .i64 m) (by kernel_rfl) (fun _ _ d _ _ h => by cases d <;> exact h) (by exact HS) rfl rfl rfl (fun w' hE => ?hBA11) ?_
                case hBA11 => first | (go_simp; rfl) | go_simp
                simp only [List.setIfInBounds_toArray, List.set_cons_zero, List.set_cons_succ]
                refine planX_one ?_
                refine stepX_valD (w' := w9.alloc (.cells #[.string ⟨#[]⟩, .string ⟨#[]⟩, .string ⟨#[]⟩] 31)) (.pointer (some ⟨w9.heap.size, 0, none⟩)) rfl rfl rfl ?rBA ?sBA ?_
                case rBA => first | (go_simp; rfl) | go_simp
                case sBA => exact Ext.trans HS (below_new w9 _)
                replace HS : Ext W0 (w9.alloc (.cells #[.string ⟨#[]⟩, .string ⟨#[]⟩, .string ⟨#[]⟩] 31)) := Ext.trans HS (below_new w9 _)
                have J10 := J9.call (below_new w9 (.cells #[.string ⟨#[]⟩, .string ⟨#[]⟩, .string ⟨#[]⟩] 31))
                have b10 := b9.alloc b9.size (.cells #[.string ⟨#[]⟩, .string ⟨#[]⟩, .string ⟨#[]⟩] 31)
                have hg9 : W0.heap.size ≤ w9.heap.size := hb9.size
                have hg9' : w1.heap.size ≤ w9.heap.size := b9.size
                have M10 := JC.new w9 (.string ⟨#[]⟩) (.string ⟨#[]⟩) (.string ⟨#[]⟩)
                have hlt := J9.lt
                simp only [List.setIfInBounds_toArray, List.set_cons_zero, List.set_cons_succ]
                generalize hW10 : w9.alloc (.cells #[.string ⟨#[]⟩, .string ⟨#[]⟩, .string ⟨#[]⟩] 31) = w10 at HS J10 b10 M10 ⊢
                have c0 := cell_three0 M10; have c1 := cell_three1 M10; have c2 := cell_three2 M10; have t0 := thaw_three M10 0; have t1 := thaw_three M10 1; have t2 := thaw_three M10 2
                refine planX_one ?_
                refine stepX_skipN (w' := (((w10.setCell ⟨w9.heap.size, 0, none⟩ (.string ⟨p.l.toArray⟩)).setCell ⟨w9.heap.size, 1, none⟩ (.string ⟨p.h.toArray⟩)).setCell ⟨w9.heap.size, 2, none⟩ (.string ⟨p.r.toArray⟩))) rfl rfl rfl ?r3BA ?s3BA ?_
                case r3BA => first | (go_simp; rfl) | go_simp
                case s3BA => exact below_putC HS hg9 _ _ _
                refine planX_one ?_
                refine stepX_valD (w' := (((w10.setCell ⟨w9.heap.size, 0, none⟩ (.string ⟨p.l.toArray⟩)).setCell ⟨w9.heap.size, 1, none⟩ (.string ⟨p.h.toArray⟩)).setCell ⟨w9.heap.size, 2, none⟩ (.string ⟨p.r.toArray⟩))) (.int .i64 m) rfl rfl rfl ?r4BA ?s4BA ?_
                case r4BA => first | (go_simp; rfl) | go_simp
                case s4BA => exact below_putC HS hg9 _ _ _
                simp only [List.setIfInBounds_toArray, List.set_cons_zero, List.set_cons_succ]
                refine planX_nil ?_
                go_wp2
                go_meet
                exact ⟨_, rfl, rfl, J10.putOther (by omega) _ _ _, M10.put _ _ _, below_putC b10 hg9' _ _ _⟩
              case f12B =>
                refine stepX_valD (w' := W0.alloc (.cells #[.string ⟨#[]⟩, .string ⟨#[]⟩, .string ⟨#[]⟩] 31)) (.pointer (some ⟨W0.heap.size, 0, none⟩)) rfl rfl rfl ?rBB ?sBB ?_
                case rBB => first | (go_simp; rfl) | go_simp
                case sBB => exact Ext.trans HS (below_new W0 _)
                replace HS : Ext W0 (W0.alloc (.cells #[.string ⟨#[]⟩, .string ⟨#[]⟩, .string ⟨#[]⟩] 31)) := Ext.trans HS (below_new W0 _)
                have J9 := J8.call (below_new W0 (.cells #[.string ⟨#[]⟩, .string ⟨#[]⟩, .string ⟨#[]⟩] 31))
                have b9 := b8.alloc b8.size (.cells #[.string ⟨#[]⟩, .string ⟨#[]⟩, .string ⟨#[]⟩] 31)
                have hg9 : W0.heap.size ≤ W0.heap.size := Nat.le_refl _
                have hg9' : w1.heap.size ≤ W0.heap.size := b8.size
                have M9 := JC.new W0 (.string ⟨#[]⟩) (.string ⟨#[]⟩) (.string ⟨#[]⟩)
                have hlt := J8.lt
                simp only [List.setIfInBounds_toArray, List.set_cons_zero, List.set_cons_succ]
                generalize hW9 : W0.alloc (.cells #[.string ⟨#[]⟩, .string ⟨#[]⟩, .string ⟨#[]⟩] 31) = w9 at HS J9 b9 M9 ⊢
                refine planX_one ?_
                refine stepX_call 16 #[.string ⟨(cur.take kk ++ l.drop kk).toArray⟩] rfl rfl rfl ?r2B ?_
                case r2B => first | (go_simp; rfl) | go_simp
                refine (P2 _ (tabs_below hT b9)).mono ?_
                rintro e w10 ⟨rfl, hb10⟩
                have HS10 : Ext W0 w10 := Ext.trans HS hb10
                refine ⟨_, rfl, HS10, ?_⟩
                replace HS := HS10
                have J10 := J9.call hb10
                have M10 := M9.call hb10
                have b10 := b9.trans (hb10.mono b9.size)
                simp only [List.setIfInBounds_toArray, List.set_cons_zero, List.set_cons_succ]
                refine planX_rd (.tuple #[.agg #[.string ⟨p.l.toArray⟩, .string ⟨p.h.toArray⟩, .string ⟨p.r.toArray⟩], .int .i64 m]) (by kernel_rfl) (fun _ _ d _ _ h => by cases d <;> exact h) (by exact HS) rfl rfl rfl (fun w' hE => ?hBB9) ?_
                case hBB9 => first | (go_simp; rfl) | go_simp
                simp only [List.setIfInBounds_toArray, List.set_cons_zero, List.set_cons_succ]
                refine planX_rd (.agg #[.string ⟨p.l.toArray⟩, .string ⟨p.h.toArray⟩, .string ⟨p.r.toArray⟩]) (by kernel_rfl) (fun _ _ d _ _ h => by cases d <;> exact h) (by exact HS) rfl rfl rfl (fun w' hE => ?hBB10) ?_
                case hBB10 => first | (go_simp; rfl) | go_simp
                simp only [List.setIfInBounds_toArray, List.set_cons_zero, List.set_cons_succ]
                refine planX_rd (.int .i64 m) (by kernel_rfl) (fun _ _ d _ _ h => by cases d <;> exact h) (by exact HS) rfl rfl rfl (fun w' hE => ?hBB11) ?_
                case hBB11 => first | (go_simp; rfl) | go_simp
                simp only [List.setIfInBounds_toArray, List.set_cons_zero, List.set_cons_succ]
                have c0 := cell_three0 M10; have c1 := cell_three1 M10; have c2 := cell_three2 M10; have t0 := thaw_three M10 0; have t1 := thaw_three M10 1; have t2 := thaw_three M10 2
                refine planX_one ?_
                refine stepX_skipN (w' := (((w10.setCell ⟨W0.heap.size, 0, none⟩ (.string ⟨p.l.toArray⟩)).setCell ⟨W0.heap.size, 1, none⟩ (.string ⟨p.h.toArray⟩)).setCell ⟨W0.heap.size, 2, none⟩ (.string ⟨p.r.toArray⟩))) rfl rfl rfl ?r3BB ?s3BB ?_
                case r3BB => first | (go_simp; rfl) | go_simp
                case s3BB => exact below_putC HS hg9 _ _ _
                refine planX_one ?_
                refine stepX_valD (w' := (((w10.setCell ⟨W0.heap.size, 0, none⟩ (.string ⟨p.l.toArray⟩)).setCell ⟨W0.heap.size, 1, none⟩ (.string ⟨p.h.toArray⟩)).setCell ⟨W0.heap.size, 2, none⟩ (.string ⟨p.r.toArray⟩))) (.int .i64 m) rfl rfl rfl ?r4BB ?s4BB ?_
                case r4BB => first | (go_simp; rfl) | go_simp
                case s4BB => exact below_putC HS hg9 _ _ _
                simp only [List.setIfInBounds_toArray, List.set_cons_zero, List.set_cons_succ]
                refine planX_nil ?_
                go_wp2
                go_meet
                exact ⟨_, rfl, rfl, J10.putOther (by omega) _ _ _, M10.put _ _ _, below_putC b10 hg9' _ _ _⟩
            case rest =>
            obtain ⟨bb, rfl, rfl, J11, M11, b11⟩ := hcut
            have c0 := cell_three0 J11; have c1 := cell_three1 J11; have c2 := cell_three2 J11; have d0 := cell_three0 M11; have d1 := cell_three1 M11; have d2 := cell_three2 M11
            go_wp2_with (go_at_call 15; refine (wakes_any _ (tabs_below hT b11)).mono ?_; rintro e w12 ⟨rfl, hb12⟩)
            go_ret
            exact ⟨rfl, b11.trans (hb12.mono b11.size)⟩
end Go.Proofs.YtikklhnkkfimfaaDoor
