/- scram's reader: a name. -/
import Derived.Test.YtmilcknboaefkaaGreatDoorScC
import Derived.Test.YtmilcknboaefkaaGreatDoorScR
import Derived.Test.YtmilcknboaefkaaGreatDoorScVs
import Derived.Shelf.Strings.PiecesUse
namespace Go.Proofs.YtmilcknboaefkaaGreatDoor
open Go.RowKit Go.Shelf

def strs (P : List Tx) : Array Value := (P.map fun t => Value.string ⟨t.toArray⟩).toArray

theorem split_any (L : Tx) (w : World) (hL : L.length ≤ 1000000) (hM : Mx w) :
    Calls Tryz.prog 92 #[.string ⟨L.toArray⟩, .string ⟨#[61]⟩] w fun e w' => e = .returned (.slice (some ⟨w.heap.size, 0, none⟩) (splitC 61 L).length (splitC 61 L).length) ∧ w' = w.alloc (.cells (strs (splitC 61 L)) 9) := by
  obtain ⟨m, hm⟩ := hM
  refine (Any.strings_Split Tryz.lays146 (by kernel_rfl) ⟨L.toArray⟩ ⟨#[61]⟩ m w (by rw [size_tx]; omega) hm (show 1 ≤ 1 from Nat.le_refl 1)).mono ?_
  rintro e w' ⟨rfl, rfl⟩
  have hl := Lib.splitB_all ⟨#[61]⟩ (show 1 ≤ 1 from Nat.le_refl 1) 0 (Lib.countB ⟨L.toArray⟩ ⟨#[61]⟩) ⟨L.toArray⟩ rfl
  have hd : (Lib.splitB ⟨#[61]⟩ 0 (Lib.countB ⟨L.toArray⟩ ⟨#[61]⟩) ⟨L.toArray⟩).map (·.data.toList) = splitC 61 L := by
    rw [Lib.splitB_data]
    exact spl_all 61 L
  generalize Lib.splitB ⟨#[61]⟩ 0 (Lib.countB ⟨L.toArray⟩ ⟨#[61]⟩) ⟨L.toArray⟩ = Q at hl hd ⊢
  rw [← hl, ← hd, List.length_map]
  refine ⟨rfl, ?_⟩
  have e : strs (Q.map (·.data.toList)) = (Q.map Value.string).toArray := by
    unfold strs
    rw [List.map_map]
    rfl
  rw [e]
  rfl

theorem turned_ok (p a : Tx) (w : World) (hp : p.length ≤ 1000000) (h : trn p = some a) : Calls Tryz.prog 93 #[.string ⟨p.toArray⟩] w fun e w' => e = .returned (.string ⟨a.toArray⟩) ∧ w' = w := by
  unfold trn at h
  have hap : ∀ (x : UInt8) (r : Tx), (⟨#[x]⟩ : ByteArray) ++ ⟨r.toArray⟩ = ⟨(x :: r).toArray⟩ := fun x r => by
    apply ByteArray.ext; simp [ByteArray.data_append]
  cases h1 : sgn [50, 67] p with
  | some r =>
    rw [h1] at h
    obtain rfl := Option.some.inj h
    have c1 := cutPrefix_ok h1 w
    have e := hap 44 r
    have hz := size_tx r
    have hl : r.length ≤ p.length := by rw [sgn_some.1 h1, List.length_append]; omega
    have h1z : (⟨#[44]⟩ : ByteArray).size = 1 := rfl
    have hov : ¬ (9223372036854775807 < 1 + r.length) := by omega
    obtain ⟨S, HS⟩ : ∃ S, Hid ((⟨r.toArray⟩ : ByteArray) = S) := ⟨_, rfl⟩
    obtain ⟨T, HT⟩ : ∃ T, Hid ((⟨(44 :: r).toArray⟩ : ByteArray) = T) := ⟨_, rfl⟩
    rw [HS.out] at c1 e hz
    rw [HT.out] at e ⊢
    clear h h1 hap
    go_enter Tryz.func93, Tryz.ntmps93
    go_wp2_with (go_at_call 84; refine c1.mono ?_; rintro e w1 ⟨rfl, rfl⟩)
    go_ret
    exact ⟨rfl, rfl⟩
  | none =>
    rw [h1] at h
    simp only [Option.map_eq_some_iff] at h
    obtain ⟨r, h2, rfl⟩ := h
    have c1 := cutPrefix_no h1 w
    have c2 := cutPrefix_ok h2 w
    have e := hap 61 r
    have hz := size_tx r
    have hl : r.length ≤ p.length := by rw [sgn_some.1 h2, List.length_append]; omega
    have h1z : (⟨#[61]⟩ : ByteArray).size = 1 := rfl
    have hov : ¬ (9223372036854775807 < 1 + r.length) := by omega
    obtain ⟨S, HS⟩ : ∃ S, Hid ((⟨r.toArray⟩ : ByteArray) = S) := ⟨_, rfl⟩
    obtain ⟨T, HT⟩ : ∃ T, Hid ((⟨(61 :: r).toArray⟩ : ByteArray) = T) := ⟨_, rfl⟩
    rw [HS.out] at c2 e hz
    rw [HT.out] at e ⊢
    clear h1 h2 hap
    have tk1 : True := trivial
    go_enter Tryz.func93, Tryz.ntmps93
    go_wp2_with (first
      | (clear tk1; go_at_call 84; refine c1.mono ?_; rintro e w1 ⟨rfl, rfl⟩)
      | (go_at_call 84; refine c2.mono ?_; rintro e w1 ⟨rfl, rfl⟩))
    go_ret
    exact ⟨rfl, rfl⟩
theorem turned_no (p : Tx) (w : World) (h : trn p = none) : Calls Tryz.prog 93 #[.string ⟨p.toArray⟩] w fun e w' => e = .panicked (gaveUp 2) ∧ w' = w := by
  unfold trn at h
  cases h1 : sgn [50, 67] p with
  | some r => rw [h1] at h; cases h
  | none =>
    rw [h1] at h
    simp only [Option.map_eq_none_iff] at h
    have c1 := cutPrefix_no h1 w
    have c2 := cutPrefix_no h w
    clear h1 h
    have tk1 : True := trivial
    go_enter Tryz.func93, Tryz.ntmps93
    go_wp2_with (first
      | (clear tk1; go_at_call 84; refine c1.mono ?_; rintro e w1 ⟨rfl, rfl⟩)
      | (go_at_call 84; refine c2.mono ?_; rintro e w1 ⟨rfl, rfl⟩)
      | (go_at_call 78; refine (giveUp_any _ _).mono ?_; rintro e w3 ⟨rfl, rfl⟩))
    exact ⟨rfl, rfl, rfl⟩

theorem strs_get (P : List Tx) (k : Nat) (h : k < P.length) : (strs P)[k]? = some (.string ⟨(P.getD k []).toArray⟩) := by
  simp [strs, List.getElem?_toArray, List.getElem?_map, List.getElem?_eq_getElem h, List.getD]
theorem splitC_len (c : UInt8) : ∀ l : Tx, (splitC c l).length ≤ l.length + 1
  | [] => by simp [splitC]
  | b :: l => by
    have ih := splitC_len c l
    rw [splitC]
    split
    · simp only [List.length_cons]; omega
    · split
      · rename_i h; rw [h] at ih; simp only [List.length_cons] at ih ⊢; omega
      · simp
theorem splitC_piece (c : UInt8) : ∀ (l p : Tx), p ∈ splitC c l → p.length ≤ l.length
  | [], p, h => by simp [splitC] at h; simp [h]
  | b :: l, p, h => by
    rw [splitC] at h
    split at h
    · rcases List.mem_cons.1 h with rfl | h
      · simp
      · have := splitC_piece c l p h; simp only [List.length_cons]; omega
    · split at h
      · rename_i x t e
        rcases List.mem_cons.1 h with rfl | h
        · have := splitC_piece c l x (by rw [e]; simp); simp only [List.length_cons]; omega
        · have := splitC_piece c l p (by rw [e]; simp [h]); simp only [List.length_cons]; omega
      · simp at h; subst h; simp
theorem trn_len {p a : Tx} (h : trn p = some a) : a.length ≤ p.length := by
  unfold trn at h
  cases h1 : sgn [50, 67] p with
  | some r =>
    rw [h1] at h
    obtain rfl := Option.some.inj h
    rw [sgn_some.1 h1]; simp
  | none =>
    rw [h1] at h
    simp only [Option.map_eq_some_iff] at h
    obtain ⟨r, h2, rfl⟩ := h
    rw [sgn_some.1 h2]; simp
/-- What is to come of a name behind k of its pieces. -/
def toCome (P : List Tx) (k : Nat) (acc : Tx) : Option Tx := if k = 0 then (match P with
  | p :: ps => (joinT ps).map (p ++ ·)
  | [] => none) else (joinT (P.drop k)).map (acc ++ ·)
theorem toCome_first {P : List Tx} (h : 0 < P.length) (acc : Tx) : toCome P 0 acc = toCome P 1 (P.getD 0 []) := by
  cases P with
  | nil => simp at h
  | cons p ps => simp [toCome]
theorem dropT {P : List Tx} {k : Nat} (h : k < P.length) : P.drop k = P.getD k [] :: P.drop (k + 1) := by
  rw [List.drop_eq_getElem_cons h]; simp [List.getD, h]
theorem toCome_next {P : List Tx} {k : Nat} (hk : 1 ≤ k) (h : k < P.length) (acc a : Tx) (ht : trn (P.getD k []) = some a) : toCome P k acc = toCome P (k + 1) (acc ++ a) := by
  unfold toCome
  rw [if_neg (by omega), if_neg (by omega), dropT h, joinT, ht]
  simp [Function.comp_def]
theorem toCome_no {P : List Tx} {k : Nat} (hk : 1 ≤ k) (h : k < P.length) (acc : Tx) (ht : trn (P.getD k []) = none) : toCome P k acc = none := by
  unfold toCome
  rw [if_neg (by omega), dropT h, joinT, ht]
  simp
theorem toCome_end {P : List Tx} {k : Nat} (h : k = P.length) (hP : P ≠ []) (acc : Tx) : toCome P k acc = some acc := by
  have : P.length ≠ 0 := fun e => hP (List.length_eq_zero_iff.1 e)
  unfold toCome
  rw [if_neg (by omega), h, List.drop_length, joinT]; simp

/-- A text that was read, or the reader gave up. -/
def Ans (X : Option Tx) (e : Ending) : Prop := match X with
  | some U => e = .returned (.string ⟨U.toArray⟩)
  | none => e = .panicked (gaveUp 2)

set_option maxHeartbeats 4000000 in
set_option maxRecDepth 100000 in
theorem name_any (B : Nat) (L : Tx) (w : World) (hA : RAt w B L) (hL : L.length ≤ 100000) (hM : Mx w) (hMB : 5 ≠ B) (hT : Lib.Utf8Tabs 1 2 w) (hT1 : 1 ≠ B) (hT2 : 2 ≠ B) :
    Calls Tryz.prog 76 #[.pointer (some ⟨B, 0, none⟩)] w fun e w' => Ans (nameO (prt L)) e ∧ RAt w' B (rst L) ∧ Keep (fun j => j = B) w w' := by
  have cP := part_any B L w hA (by omega) hM
  have hle : (prt L).length ≤ L.length := by unfold prt; rw [List.length_take]; omega
  have hBl := hA.lt
  obtain ⟨F, hF⟩ : ∃ F, prt L = F := ⟨_, rfl⟩
  rw [hF] at cP hle ⊢
  have HM : Hid (∀ w', Keep (fun j => j = B) w w' → Mx w') := fun w' hk => hM.keep hk hMB
  have HT : Hid (∀ w', Keep (fun j => j = B) w w' → Lib.Utf8Tabs 1 2 w') := fun w' hk => tabs_keep hT hk hT1 hT2
  clear hA hM hT hF
  have hE := isEmpty_tx F
  by_cases h0 : F = []
  · subst h0
    have e : nameO [] = none := by unfold nameO; rw [if_neg (by simp)]
    rw [e]
    go_enter Tryz.func76, Tryz.ntmps76
    go_wp2_with (first
      | (go_at_call 85; refine cP.mono ?_; rintro e w1 ⟨rfl, hr1, hk1⟩)
      | (go_at_call 78; refine (giveUp_any _ _).mono ?_; rintro e w3 ⟨rfl, rfl⟩))
    exact ⟨rfl, rfl, hr1, hk1⟩
  rw [decide_eq_false h0] at hE
  have cV := fun w h => validString_any F w (by omega) h
  cases hV : Lib.validD F with
  | false =>
    have e : nameO F = none := by unfold nameO; rw [if_neg (by simp [hV])]
    rw [e]
    rw [hV] at cV
    obtain ⟨S, HS⟩ : ∃ S, Hid ((⟨F.toArray⟩ : ByteArray) = S) := ⟨_, rfl⟩
    rw [HS.out] at cP cV hE
    clear h0 hV e
    go_enter Tryz.func76, Tryz.ntmps76
    go_wp2_with (first
      | (go_at_call 85; refine cP.mono ?_; rintro e w1 ⟨rfl, hr1, hk1⟩)
      | (go_at_call 44; refine (cV _ (HT.out _ hk1)).mono ?_; rintro e w2 ⟨rfl, hb2⟩)
      | (go_at_call 78; refine (giveUp_any _ _).mono ?_; rintro e w3 ⟨rfl, rfl⟩))
    exact ⟨rfl, rfl, hr1.below hb2, hk1.trans (Keep.ofBelow hb2)⟩
  | true =>
    have e : nameO F = toCome (splitC 61 F) 0 [] := by
      unfold nameO; rw [if_pos ⟨h0, hV⟩, ← name_unesc _ F (Nat.le_refl _)]; rfl
    rw [e]
    rw [hV] at cV
    have cS := fun w h => split_any F w (by omega) h
    have hPl := splitC_len 61 F
    have HPp : Hid (∀ k, k < (splitC 61 F).length → ((splitC 61 F).getD k []).length ≤ F.length) := fun k hk => splitC_piece 61 F _ (by simp [List.getD, List.getElem?_eq_getElem hk])
    have HPn : Hid (splitC 61 F ≠ []) := splitC_ne 61 F
    obtain ⟨P, HP⟩ : ∃ P, Hid (splitC 61 F = P) := ⟨_, rfl⟩
    rw [HP.out] at cS hPl HPp HPn ⊢
    obtain ⟨X, HX⟩ : ∃ X, Hid (toCome P 0 [] = X) := ⟨_, rfl⟩
    rw [HX.out]
    obtain ⟨S, HS⟩ : ∃ S, Hid ((⟨F.toArray⟩ : ByteArray) = S) := ⟨_, rfl⟩
    rw [HS.out] at cP cV hE cS
    obtain ⟨N, HN⟩ : ∃ N, Hid (P.length = N) := ⟨_, rfl⟩
    rw [HN.out] at cS hPl HPp
    clear h0 hV e
    go_enter Tryz.func76, Tryz.ntmps76
    go_wp2_with (first
      | (go_at_call 85; refine cP.mono ?_; rintro e w1 ⟨rfl, hr1, hk1⟩)
      | (go_at_call 44; refine (cV _ (HT.out _ hk1)).mono ?_; rintro e w2 ⟨rfl, hb2⟩; have hk2 := hk1.trans (Keep.ofBelow hb2); have hr2 := hr1.below hb2)
      | (go_at_call 92; refine (cS _ (HM.out _ (hk2.alloc _))).mono ?_; rintro e w3 ⟨rfl, rfl⟩))
    go_loopw [20] (fun s20 wr => ∃ (k : Nat) (acc : Tx), s20 = .int .i64 (k : Int) ∧ k ≤ N ∧ Hid (toCome P k acc = X) ∧ Hid (acc.length ≤ k * 100000) ∧ Hid (k = 0 → acc = []) ∧ Lib.IsBuilderF 139 5 w2.heap.size w2.heap.size (Lib.byteCells acc) wr ∧ wr.heap[w2.heap.size + 1]? = some (.cells (strs P) 9 (0, 0)) ∧ Below w2.heap.size w2 wr) (fun s20 _ => N - nV s20)
    case atStart =>
      refine ⟨0, [], rfl, Nat.zero_le _, HX.out, Nat.zero_le _, fun _ => rfl, (Lib.IsBuilderF.of (Lib.fresh_isBuilder 139 5 w2)).alloc _, ?_, ((Below.refl _ _).alloc (Nat.le_refl _) _).alloc (by simp) _⟩
      have := heap_alloc_new (w2.alloc (.cells #[.pointer none, .slice none 0 0] 139)) (.cells (strs P) 9)
      simpa using this
    case round =>
      obtain ⟨k, acc, rfl, hk, HX2, Hac, H0, hI, hpc, hbw⟩ := hrel
      have hzw := hbw.size
      have hac := Hac.out
      rcases Nat.lt_or_ge k N with hlt | hge
      · have hli : (k : Int) < (N : Int) := by omega
        have hcell : wr.cell? ⟨w2.heap.size + 1, k, none⟩ = some (.string ⟨(P.getD k []).toArray⟩) := by
          rw [Lib.cell_of_heap hpc]; exact strs_get P k (by rw [HN.out]; exact hlt)
        have hpl := HPp.out k hlt
        have hKept : ∀ w4, Lib.OthersKept 5 (some w2.heap.size) wr w4 → w4.heap[w2.heap.size + 1]? = some (.cells (strs P) 9 (0, 0)) := fun w4 h => h _ _ hpc (by simp) (by intro c fz e; cases e)
        have HKept : Hid _ := hKept
        clear hKept
        rcases Nat.eq_zero_or_pos k with hk0 | hk1
        · subst hk0
          have ha := H0.out rfl
          subst ha
          have HX3 : Hid (toCome P 1 (P.getD 0 []) = X) := by show _ = _; rw [← toCome_first (by rw [HN.out]; exact hlt) []]; exact HX2.out
          obtain ⟨p, hp⟩ : ∃ p, P.getD 0 [] = p := ⟨_, rfl⟩
          rw [hp] at hcell hpl HX3
          have hz := size_tx p
          obtain ⟨Y, HY⟩ : ∃ Y, Hid ((⟨p.toArray⟩ : ByteArray) = Y) := ⟨_, rfl⟩
          rw [HY.out] at hcell hz
          clear hp HX2
          go_wp2_with (go_at_call 94; refine (writeString_any _ _ _ _ _ hI (by simp [Lib.byteCells]; omega) (by omega)).mono ?_; rintro e w4 ⟨⟨n, rfl⟩, hI4, hb4, hko⟩)
          go_roundw
          case rel =>
            refine ⟨1, p, rfl, by omega, HX3, (by show _ ≤ _; omega), (fun h => by cases h), ?_, HKept.out _ hko, hbw.trans hb4⟩
            rw [← strCells_tx p, HY.out]; simpa [Lib.byteCells] using hI4
          case measure => simp [nV]; omega
        · have hgt : (0 : Int) < (k : Int) := by omega
          cases ht : trn (P.getD k []) with
          | none =>
            have hX : X = none := by rw [← HX2.out]; exact toCome_no hk1 (by rw [HN.out]; exact hlt) acc ht
            subst hX
            have cT := turned_no _ wr ht
            obtain ⟨p, hp⟩ : ∃ p, P.getD k [] = p := ⟨_, rfl⟩
            rw [hp] at hcell cT
            obtain ⟨Y, HY⟩ : ∃ Y, Hid ((⟨p.toArray⟩ : ByteArray) = Y) := ⟨_, rfl⟩
            rw [HY.out] at hcell cT
            clear hp HX2 ht hpl
            go_wp2_with (go_at_call 93; refine cT.mono ?_; rintro e w4 ⟨rfl, rfl⟩)
            exact ⟨rfl, rfl, hr2.below hbw, hk2.trans (Keep.ofBelow hbw)⟩
          | some a =>
            have HX3 : Hid (toCome P (k + 1) (acc ++ a) = X) := by show _ = _; rw [← toCome_next hk1 (by rw [HN.out]; exact hlt) acc a ht]; exact HX2.out
            have cT := turned_ok _ a wr (by omega) ht
            have hal := trn_len ht
            obtain ⟨p, hp⟩ : ∃ p, P.getD k [] = p := ⟨_, rfl⟩
            rw [hp] at hcell cT hpl hal
            have hz := size_tx a
            obtain ⟨Y, HY⟩ : ∃ Y, Hid ((⟨p.toArray⟩ : ByteArray) = Y) := ⟨_, rfl⟩
            obtain ⟨Z, HZ⟩ : ∃ Z, Hid ((⟨a.toArray⟩ : ByteArray) = Z) := ⟨_, rfl⟩
            rw [HY.out] at hcell cT
            rw [HZ.out] at cT hz
            clear hp HX2 ht
            go_wp2_with (first
              | (go_at_call 93; refine cT.mono ?_; rintro e w3 ⟨rfl, rfl⟩)
              | (go_at_call 94; refine (writeString_any _ _ _ _ _ hI (by rw [Lib.byteCells_length]; omega) (by omega)).mono ?_; rintro e w4 ⟨⟨n, rfl⟩, hI4, hb4, hko⟩))
            go_roundw
            case rel =>
              refine ⟨k + 1, acc ++ a, by push_cast; rfl, by omega, HX3, (by show _ ≤ _; rw [List.length_append]; omega), (fun h => by omega), ?_, HKept.out _ hko, hbw.trans hb4⟩
              rw [Lib.byteCells_append, ← strCells_tx a, HZ.out]; exact hI4
            case measure => simp [nV]; omega
      · have hli : ¬ ((k : Int) < (N : Int)) := by omega
        have hX : X = some acc := by rw [← HX2.out]; exact toCome_end (by rw [HN.out]; omega) HPn.out acc
        subst hX
        clear HX2 HX
        go_wp2_with (go_at_call 95; refine (bString_any _ _ acc _ hI (by omega)).mono ?_; rintro e w5 ⟨rfl, hb5⟩)
        go_ret
        have hbb := hbw.trans hb5
        exact ⟨rfl, hr2.below hbb, hk2.trans (Keep.ofBelow hbb)⟩
end Go.Proofs.YtmilcknboaefkaaGreatDoor
