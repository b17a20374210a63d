/- The document's first runs of a log. -/
import Derived.Test.YtikkieaokfailaaGreatDoorLgT
import Derived.Lib.SlBytesConst
import Derived.BigFrame
namespace Go.Proofs.YtikkieaokfailaaGreatDoor
open Go.RowKit Go.Joins

def lg1 (most : Nat) : Lg := ⟨most, [], ⟨1, 0, 0, false⟩, false⟩
theorem open_new (most room : Nat) : openL most (newK room) = (0, lg1 most, newK room) := by kernel_rfl
theorem seg11 : segN 1 1 = ⟨#[108, 111, 103, 45, 49, 45, 49]⟩ := by
  unfold segN
  rw [Lib.decDigits_one (by decide)]
  rfl
def fAb : List Int := [0, 0, 0, 2, 158, 131, 72, 109, 97, 98]
theorem formAb : formL [97, 98] = fAb := by kernel_rfl
def kAb : Dk := ⟨1000, [(⟨#[108, 111, 103, 45, 49, 45, 49]⟩, ⟨fAb, 0⟩)], 1, false, none⟩
theorem appAb : appK (newK 1000) ⟨#[108, 111, 103, 45, 49, 45, 49]⟩ fAb = (0, kAb) := by kernel_rfl
theorem append_ab : appendT (lg1 100) (newK 1000) [97, 98] = (0, ⟨100, [[97, 98]], ⟨1, 1, 10, true⟩, false⟩, kAb) := by
  unfold appendT appendL
  rw [if_neg (by decide), formAb]
  have h : layL (lg1 100).most (lg1 100).ch fAb (lg1 100).dn (newK 1000) = (0, ⟨1, 1, 10, true⟩, false, kAb) := by
    unfold layL
    rw [if_neg (by decide)]
    show putS 1 0 ⟨1, 0, 0, false⟩ fAb false (newK 1000) = _
    unfold putS
    rw [show (⟨1, 0, 0, false⟩ : Ch).g = 1 from rfl, seg11, appAb]
    rfl
  rw [h]
  rfl
theorem read_ab : readK kAb ⟨#[108, 111, 103, 45, 49, 45, 49]⟩ = (0, fAb) := by kernel_rfl

theorem rd_ab (w : World) (m : Nat × Nat) : Rd (w.alloc (.cells #[.int .u8 97, .int .u8 98] 5 m)) (some ⟨w.heap.size, 0, none⟩) 2 2 [97, 98] := by
  refine ⟨rfl, Nat.le_refl _, by unfold maxLen; omega, (fun h => by cases h), (fun q hq => by simp at hq; omega), fun ad had j hj => ?_⟩
  cases had
  rw [add_flat]
  match j, hj with
  | 0, _ | 1, _ => unfold World.cell?; rw [World.alloc_heap_new]; rfl
theorem strAb : (strOfNums fAb).toList = [0, 0, 0, 2, 158, 131, 72, 109, 97, 98] := by rw [ByteArray.toList_eq]; rfl
theorem bdAb : Bd fAb := by unfold fAb; intro x hx; simp at hx; omega

set_option maxRecDepth 100000 in
set_option maxHeartbeats 2000000 in
theorem swakes_any (w : World) (hP : Pw w) : Calls Tryz.prog 11 #[] w fun e w' => e = .returned (.bool true) ∧ Below w.heap.size w w' := by
  have kc := fun (w : World) (C : Array Value) (n c : Nat) => Lib.run_convert_bytes_const (P := Tryz.prog) w 29 5 C n c Tryz.underlying29 Tryz.underlying5
  have hN := new_ok 1000 (by omega) w
  have hpl := hP.at
  obtain ⟨kN, HkN⟩ : ∃ kN, Hid (newK 1000 = kN) := ⟨_, rfl⟩
  have hon := open_new 100 1000
  have hap := append_ab
  rw [HkN.out] at hN hon hap
  have hkf : kN.fs.length ≤ 1000 := by rw [← HkN.out]; decide
  have hks : kN.steps < 800000 := by rw [← HkN.out]; decide
  have hku : used kN.fs ≤ 900000 := by rw [← HkN.out]; decide
  have Hop : Hid (openL 100 kN = (0, lg1 100, kN)) := hon
  have Hap : Hid (appendT (lg1 100) kN [97, 98] = (0, ⟨100, [[97, 98]], ⟨1, 1, 10, true⟩, false⟩, kAb)) := hap
  clear hon hap
  go_enter Tryz.func11, Tryz.ntmps11
  go_upto_region 2 with (first
    | (go_at_call 14; refine hN.mono ?_; rintro e w1 ⟨d, rfl, ⟨F1, hD1, hF1⟩, hb1⟩))
  have hop := sopen_any w1 F1 d 100 kN (by omega) (by omega) hD1 (hP.below hb1) (fun i hi => by have := hF1 i hi; omega) hkf hks hku
  rw [Hop.out] at hop
  go_upto_region 3 with (first
    | (go_at_call 20; refine hop.mono ?_; rintro e w2 ho; obtain ⟨lb, rfl, hlb, F2, H2, hA2, hk2, hF2, hH2⟩ := ho.yes rfl))
  clear ho hop
  have hbA : Below w2.heap.size w2 (w2.alloc (.cells #[.int .u8 97, .int .u8 98] 5 (2, 3))) := (Below.refl _ _).alloc (Nat.le_refl _) _
  obtain ⟨v2, hL2, _⟩ := hA2.ex
  have hF2l := hL2.D.lt
  have hlbl := hL2.lt
  have hapc := sappend_any _ F2 H2 lb d (lg1 100) kN (hA2.below hbA) ⟨by decide, by decide, by decide, by decide, by decide⟩ (by omega) (by omega) _ 2 2 [97, 98] (rd_ab w2 (2, 3)) (fun ad had => by
    cases had
    refine ⟨fun hf => ?_, ?_⟩
    · have := hF2l _ hf; dsimp only at this; omega
    · dsimp only; omega)
  rw [Hap.out] at hapc
  have hF20 : ∀ i, F2 i → w.heap.size ≤ i := fun i hi => (hF2 i hi).elim (hF1 i) (fun h => by have := hb1.size; omega)
  have hH20 : ∀ i, H2 i → w.heap.size ≤ i := fun i hi => by have := hH2 i hi; have := hb1.size; omega
  have hb2 : Below w.heap.size w w2 := hb1.trans (hk2.low hb1.size hF1)
  go_upto_region 5 with (first
    | (go_at_call 22; refine hapc.mono ?_; rintro e w3 ⟨rfl, F3, H3, hA3, hk3, hF3, hH3⟩))
  have hbA2 : Below w.heap.size w (w2.alloc (.cells #[.int .u8 97, .int .u8 98] 5 (2, 3))) := hb2.alloc hb2.size _
  have hb3 : Below w.heap.size w w3 := hbA2.trans (hk3.low hbA2.size (fun i hi => by
    rcases hi with hi | hi | hi
    · exact hF20 i hi
    · exact hH20 i hi
    · have := hb1.size; omega))
  obtain ⟨v3, hL3, _⟩ := hA3.ex
  have hrd := read_any d F3 kAb ⟨#[108, 111, 103, 45, 49, 45, 49]⟩ w3 hL3.D
  rw [read_ab] at hrd
  dsimp only at hrd
  go_upto_region 6 with (first
    | (go_at_call 38; refine hrd.mono ?_; rintro e w4 ⟨v4, rfl, o4, hb4⟩; obtain ⟨a4, c4, rfl, r4⟩ := Rd.ofOwn o4 bdAb))
  have hs4 := r4.string
  have hln := slen_any w4 F3 H3 lb d _ kAb (hA3.below hb4)
  obtain ⟨SS, HSS⟩ : ∃ SS, Hid (strOfNums fAb = SS) := ⟨_, rfl⟩
  rw [HSS.out] at hs4
  have hsl : (SS.toList == [0, 0, 0, 2, 158, 131, 72, 109, 97, 98]) = true := by rw [← HSS.out, strAb]; rfl
  clear r4 o4 hapc hrd
  go_wp2_with (first
    | (go_at_call 26; refine hln.mono ?_; rintro e w5 ⟨rfl, h5⟩; replace h5 := h5.symm; subst h5))
  go_ret
  exact ⟨rfl, hb3.trans (hb4.mono hb3.size)⟩

end Go.Proofs.YtikkieaokfailaaGreatDoor

/- Rows of forms, cut anywhere: plain functions, no program. -/
namespace Go.Proofs.YtikkieaokfailaaGreatDoor
open Go.RowKit Go.Joins

theorem numL_big4 (n : Nat) (h : n < 4294967296) : numL (bigL 4 n) = n := by
  rw [big4]
  show (((0 * 256 + ((n : Int) / 16777216 % 256).toNat) * 256 + ((n : Int) / 65536 % 256).toNat) * 256 + ((n : Int) / 256 % 256).toNat) * 256 + ((n : Int) % 256).toNat = n
  omega
theorem formL_take4 (r rest : List Int) : (formL r ++ rest).take 4 = bigL 4 r.length := by
  unfold formL
  rw [List.append_assoc, List.append_assoc, List.take_append_of_le_length (Nat.le_of_eq (bigL_len _ _).symm), List.take_of_length_le (Nat.le_of_eq (bigL_len _ _))]
theorem formL_drop4 (r rest : List Int) : ((formL r ++ rest).drop 4).take 4 = bigL 4 (crcN r) := by
  unfold formL
  rw [List.append_assoc, List.append_assoc, List.drop_append_of_le_length (Nat.le_of_eq (bigL_len _ _).symm), List.drop_eq_nil_of_le (Nat.le_of_eq (bigL_len _ _)), List.nil_append, List.take_append_of_le_length (Nat.le_of_eq (bigL_len _ _).symm), List.take_of_length_le (Nat.le_of_eq (bigL_len _ _))]
theorem formL_drop8 (r rest : List Int) : (formL r ++ rest).drop 8 = r ++ rest := by
  unfold formL
  have h : (bigL 4 r.length ++ bigL 4 (crcN r)).length = 8 := by rw [List.length_append, bigL_len, bigL_len]
  rw [List.append_assoc, List.drop_append_of_le_length (Nat.le_of_eq h.symm), List.drop_eq_nil_of_le (Nat.le_of_eq h), List.nil_append]
/-- A record's form is read back, whatever stands behind it. -/
theorem recO_form (r rest : List Int) (h : r.length ≤ 1048576) : recO (formL r ++ rest) = some r := by
  have hl : (formL r ++ rest).length = 8 + r.length + rest.length := by rw [List.length_append, formL_len]
  unfold recO
  rw [if_neg (by omega), formL_take4, numL_big4 _ (by omega), if_neg (by omega), formL_drop8, formL_drop4, numL_big4 _ (crcN_lt r)]
  rw [List.take_append_of_le_length (Nat.le_refl _), List.take_length, if_pos rfl]
/-- A form that is cut short does not fit. -/
theorem recO_short (r : List Int) (h : r.length ≤ 1048576) (k : Nat) (hk : k < 8 + r.length) : recO ((formL r).take k) = none := by
  have hl : ((formL r).take k).length = k := by rw [List.length_take, formL_len]; omega
  by_cases h8 : k < 8
  · exact recO_small (by omega)
  · refine recO_big (by omega) (Or.inr ?_)
    have h4 : ((formL r).take k).take 4 = bigL 4 r.length := by
      rw [List.take_take, Nat.min_eq_left (by omega)]
      have := formL_take4 r []
      rw [List.append_nil] at this
      exact this
    rw [h4, numL_big4 _ (by omega), hl]
    omega

/-- Records, one form behind the other. -/
def forms : List (List Int) → List Int
  | [] => []
  | r :: rs => formL r ++ forms rs
theorem forms_app (a b : List (List Int)) : forms (a ++ b) = forms a ++ forms b := by
  induction a with
  | nil => rfl
  | cons r a ih => show formL r ++ forms (a ++ b) = formL r ++ forms a ++ forms b; rw [ih, List.append_assoc]
/-- How many records are whole within the first k bytes. -/
def wholeN : List (List Int) → Nat → Nat
  | [], _ => 0
  | r :: rs, k => if 8 + r.length ≤ k then wholeN rs (k - (8 + r.length)) + 1 else 0
theorem wholeN_le (rs : List (List Int)) (k : Nat) : wholeN rs k ≤ rs.length := by
  induction rs generalizing k with
  | nil => exact Nat.le_refl _
  | cons r rs ih => unfold wholeN; split <;> simp <;> have := ih (k - (8 + r.length)) <;> omega
/-- A row of forms that is cut anywhere has just the records whose forms are whole. -/
theorem scan_cut : ∀ (rs : List (List Int)) (k f : Nat), (∀ r ∈ rs, r.length ≤ 1048576) → ((forms rs).take k).length ≤ f →
    scanF f ((forms rs).take k) = (rs.take (wholeN rs k), (forms (rs.take (wholeN rs k))).length, decide ((forms (rs.take (wholeN rs k))).length = ((forms rs).take k).length))
  | [], k, f, _, _ => by
    show scanF f (([] : List Int).take k) = _
    have e : (forms []).take k = [] := List.take_nil
    rw [List.take_nil, scanF_nil f [] rfl, e]
    simp [forms]
  | r :: rs, k, f, hr, hf => by
    have hr0 := hr r (List.mem_cons_self ..)
    by_cases hk0 : k = 0
    · subst hk0
      have e : wholeN (r :: rs) 0 = 0 := if_neg (by omega)
      rw [e, List.take_zero, scanF_nil f [] rfl]
      rfl
    · by_cases hk : 8 + r.length ≤ k
      · have e : wholeN (r :: rs) k = wholeN rs (k - (8 + r.length)) + 1 := if_pos hk
        have et : (forms (r :: rs)).take k = formL r ++ (forms rs).take (k - (8 + r.length)) := by
          show (formL r ++ forms rs).take k = _
          rw [List.take_append, formL_len, List.take_of_length_le (by rw [formL_len]; omega)]
        rw [et] at hf ⊢
        rw [List.length_append, formL_len] at hf
        obtain ⟨f2, rfl⟩ : ∃ f2, f = f2 + 1 := ⟨f - 1, by omega⟩
        have hne : (formL r ++ (forms rs).take (k - (8 + r.length))).length ≠ 0 := by rw [List.length_append, formL_len]; omega
        have hdr : (formL r ++ (forms rs).take (k - (8 + r.length))).drop (8 + r.length) = (forms rs).take (k - (8 + r.length)) := by
          rw [List.drop_append_of_le_length (by rw [formL_len]; exact Nat.le_refl _), List.drop_eq_nil_of_le (by rw [formL_len]; exact Nat.le_refl _), List.nil_append]
        rw [scanF_some hne (recO_form r _ hr0), hdr, scan_cut rs (k - (8 + r.length)) f2 (fun x hx => hr x (List.mem_cons_of_mem _ hx)) (by omega), e, List.take_succ_cons]
        simp only [forms, List.length_append, formL_len]
        congr 2
        congr 1
        simp only [eq_iff_iff]
        omega
      · have e : wholeN (r :: rs) k = 0 := if_neg hk
        have et : (forms (r :: rs)).take k = (formL r).take k := by
          show (formL r ++ forms rs).take k = _
          exact List.take_append_of_le_length (by rw [formL_len]; omega)
        have hl : ((formL r).take k).length = k := by rw [List.length_take, formL_len]; omega
        rw [et] at hf ⊢
        obtain ⟨f2, rfl⟩ : ∃ f2, f = f2 + 1 := ⟨f - 1, by omega⟩
        rw [scanF_no (by omega) (recO_short r hr0 k (by omega)), e, List.take_zero]
        have e2 : decide ((forms []).length = ((formL r).take k).length) = false := decide_eq_false (fun e => by rw [hl] at e; exact hk0 e.symm)
        rw [e2]
        rfl
/-- A row of whole forms has just its records. -/
theorem wholeN_all (rs : List (List Int)) (k : Nat) (h : (forms rs).length ≤ k) : wholeN rs k = rs.length := by
  induction rs generalizing k with
  | nil => rfl
  | cons r rs ih =>
    have h' : 8 + r.length + (forms rs).length ≤ k := by simpa [forms, formL_len] using h
    unfold wholeN
    rw [if_pos (by omega), ih _ (by omega)]
    rfl
theorem scan_forms (rs : List (List Int)) (f : Nat) (h : ∀ r ∈ rs, r.length ≤ 1048576) (hf : (forms rs).length ≤ f) : scanF f (forms rs) = (rs, (forms rs).length, true) := by
  have h1 := scan_cut rs (forms rs).length f h (by rw [List.take_length]; exact hf)
  rw [List.take_length, wholeN_all rs _ (Nat.le_refl _), List.take_length] at h1
  rw [h1]
  simp

/-- The names of segments are names of files. -/
theorem dec_okc : ∀ (k n : Nat), n ≤ k → ∀ c ∈ Lib.decDigits n, okc c = true
  | k, n, h => by
    have hd : ∀ d : Nat, d < 10 → okc (UInt8.ofNat (48 + d)) = true := by decide
    by_cases h1 : n < 10
    · rw [Lib.decDigits_one h1]
      intro c hc
      rw [List.mem_singleton.1 hc]
      exact hd n h1
    · match k, h with
      | 0, h => omega
      | k + 1, h =>
        rw [decDigits_moreL h1]
        intro c hc
        rcases List.mem_append.1 hc with hc | hc
        · exact dec_okc k (n / 10) (by omega) c hc
        · rw [List.mem_singleton.1 hc]
          exact hd _ (Nat.mod_lt _ (by decide))
theorem isNm_seg (g i : Nat) (hg : g < 18446744073709551616) (hi : i < 18446744073709551616) : isNm (segN g i) = true := by
  have h1 := segN_size g i hg hi
  have h2 : 5 ≤ (segN g i).size := by
    show 5 ≤ ([108, 111, 103, 45] ++ Lib.decDigits g ++ [45] ++ Lib.decDigits i).toArray.size
    simp
    omega
  have h3 : (segN g i).data.toList.all okc = true := by
    show ([108, 111, 103, 45] ++ Lib.decDigits g ++ [45] ++ Lib.decDigits i).all okc = true
    rw [List.all_eq_true]
    intro c hc
    rcases List.mem_append.1 hc with hc | hc
    · rcases List.mem_append.1 hc with hc | hc
      · rcases List.mem_append.1 hc with hc | hc
        · have : ∀ c ∈ ([108, 111, 103, 45] : List UInt8), okc c = true := by decide
          exact this c hc
        · exact dec_okc g g (Nat.le_refl _) c hc
      · rw [List.mem_singleton.1 hc]; decide
    · exact dec_okc i i (Nat.le_refl _) c hc
  unfold isNm
  rw [h3, decide_eq_true (by omega), decide_eq_true (by omega)]
  rfl
theorem seg_isOf (g i : Nat) : isOf (segN g i) = true := by
  unfold isOf
  have : Lib.hasPrefix (segN g i).data.toList sLog.data.toList = true := by
    show Lib.hasPrefix ([108, 111, 103, 45] ++ Lib.decDigits g ++ [45] ++ Lib.decDigits i) [108, 111, 103, 45] = true
    unfold Lib.hasPrefix
    simp
  rw [this, Bool.or_true]

end Go.Proofs.YtikkieaokfailaaGreatDoor

/- A disk that has just a log's segments: plain functions, no program. -/
namespace Go.Proofs.YtikkieaokfailaaGreatDoor
open Go.RowKit Go.Joins

/-- The disk has just the segments 1 to n of the first generation; of number j the bytes are B j, and safe are Z j of them. -/
structure Sg (k : Dk) (n : Nat) (B : Nat → List Int) (Z : Nat → Nat) : Prop where
  on : k.off = false
  fu : k.fu = none
  good : k.Good
  few : n ≤ 1000
  yes : ∀ j, j < n → look k.fs (segN 1 (j + 1)) = some ⟨B j, Z j⟩
  only : ∀ s f, look k.fs s = some f → ∃ j, j < n ∧ s = segN 1 (j + 1)
theorem Sg.nm (j : Nat) (h : j ≤ 1000) : isNm (segN 1 (j + 1)) = true := isNm_seg 1 (j + 1) (by decide) (by omega)
theorem Sg.no {k : Dk} {n : Nat} {B : Nat → List Int} {Z : Nat → Nat} (h : Sg k n B Z) : look k.fs (segN 1 (n + 1)) = none := by
  cases hl : look k.fs (segN 1 (n + 1)) with
  | none => rfl
  | some f =>
    obtain ⟨j, hj, e⟩ := h.only _ _ hl
    have := segN_inj e
    omega
theorem pass_on {k : Dk} (h : k.fu = none) : passK k = (0, { k with steps := k.steps + 1 }) := by unfold passK; rw [h]
/-- A segment is synced. -/
theorem Sg.sync {k : Dk} {n : Nat} {B : Nat → List Int} {Z : Nat → Nat} (h : Sg k n B Z) (j : Nat) (hj : j < n) : ∃ k', syncK k (segN 1 (j + 1)) = (0, k') ∧ Sg k' n B (fun i => if i = j then (B j).length else Z i) ∧ k'.steps = k.steps + 1 ∧ k'.fs.length ≤ k.fs.length + 1 ∧ used k'.fs = used k.fs ∧ k'.room = k.room := by
  have hy := h.yes j hj
  have hnm := Sg.nm j (by have := h.few; omega)
  refine ⟨{ k with steps := k.steps + 1, fs := putL k.fs (segN 1 (j + 1)) ⟨B j, (B j).length⟩ }, ?_, ?_, rfl, len_put _ _ _, ?_, rfl⟩
  · unfold syncK stepK
    rw [h.on, if_neg (by decide), if_neg (by rw [hnm]; decide), hy]
    dsimp only
    rw [if_neg (by simp), pass_on h.fu, if_neg (by simp)]
    dsimp only
    rw [h.on]
  · obtain ⟨g1, g2, g3⟩ := look_good h.good hy
    have hup := used_put k.fs h.good.rise (segN 1 (j + 1)) ⟨B j, (B j).length⟩
    rw [hy] at hup
    have e : lenO (some (⟨B j, Z j⟩ : Fle)) = (B j).length := rfl
    rw [e] at hup
    refine ⟨h.on, h.fu, ⟨h.good.room, rise_put h.good.rise _ _, ?_, fun p hp => ?_, h.good.fu⟩, h.few, fun i hi => ?_, fun s f hs => ?_⟩
    · show used (putL _ _ _) ≤ k.room
      have := h.good.used
      have e2 : (⟨B j, (B j).length⟩ : Fle).b.length = (B j).length := rfl
      omega
    · rcases mem_put hp with rfl | hp
      · exact ⟨g1, Nat.le_refl _, g3⟩
      · exact h.good.each p hp
    · show look (putL _ _ _) _ = _
      rw [look_put _ h.good.rise]
      by_cases e2 : i = j
      · subst e2
        rw [if_pos rfl, if_pos rfl]
      · rw [if_neg (fun e3 => e2 (by have := segN_inj e3; omega)), if_neg e2]
        exact h.yes i hi
    · have hs' : look (putL k.fs (segN 1 (j + 1)) ⟨B j, (B j).length⟩) s = some f := hs
      rw [look_put _ h.good.rise] at hs'
      split at hs'
      · rename_i e2; exact ⟨j, hj, e2⟩
      · exact h.only s f hs'
  · have hup := used_put k.fs h.good.rise (segN 1 (j + 1)) ⟨B j, (B j).length⟩
    rw [hy] at hup
    have e : lenO (some (⟨B j, Z j⟩ : Fle)) = (B j).length := rfl
    have e2 : (⟨B j, (B j).length⟩ : Fle).b.length = (B j).length := rfl
    rw [e, e2] at hup
    show used (putL _ _ _) = _
    omega
/-- Bytes are appended to a segment, or to the next one. -/
theorem Sg.app {k : Dk} {n : Nat} {B : Nat → List Int} {Z : Nat → Nat} (h : Sg k n B Z) (j : Nat) (hj : j ≤ n) (hj9 : j < 1000) (ys : List Int) (hb : Bd ys) (hro : ys.length + used k.fs ≤ k.room) :
    ∃ k', appK k (segN 1 (j + 1)) ys = (0, k') ∧ Sg k' (max n (j + 1)) (fun i => if i = j then (if j < n then B j ++ ys else ys) else B i) (fun i => if i = j then (if j < n then Z j else 0) else Z i) ∧ k'.steps = k.steps + 1 ∧ k'.fs.length ≤ k.fs.length + 1 ∧ used k'.fs = used k.fs + ys.length ∧ k'.room = k.room := by
  have hnm := Sg.nm j (by omega)
  obtain ⟨o, ho⟩ : ∃ o, look k.fs (segN 1 (j + 1)) = o := ⟨_, rfl⟩
  have hob : o = if j < n then some ⟨B j, Z j⟩ else none := by
    rw [← ho]
    by_cases hjn : j < n
    · rw [if_pos hjn]; exact h.yes j hjn
    · rw [if_neg hjn]
      have : j = n := by omega
      subst this
      exact h.no
  have hbo : (o.map Fle.b).getD [] ++ ys = (if j < n then B j ++ ys else ys) ∧ (o.map Fle.safe).getD 0 = (if j < n then Z j else 0) ∧ lenO o + ys.length = ((o.map Fle.b).getD [] ++ ys).length := by
    rw [hob]
    split
    · exact ⟨rfl, rfl, by show (B j).length + ys.length = (B j ++ ys).length; rw [List.length_append]⟩
    · exact ⟨rfl, rfl, by show 0 + ys.length = ([] ++ ys).length; simp⟩
  have hup := used_put k.fs h.good.rise (segN 1 (j + 1)) ⟨(o.map Fle.b).getD [] ++ ys, (o.map Fle.safe).getD 0⟩
  rw [ho] at hup
  have e2 : (⟨(o.map Fle.b).getD [] ++ ys, (o.map Fle.safe).getD 0⟩ : Fle).b.length = ((o.map Fle.b).getD [] ++ ys).length := rfl
  rw [e2] at hup
  have hsb : (o.map Fle.safe).getD 0 ≤ ((o.map Fle.b).getD [] ++ ys).length ∧ Bd ((o.map Fle.b).getD [] ++ ys) := by
    cases o with
    | none => exact ⟨Nat.zero_le _, hb⟩
    | some f =>
      obtain ⟨g1, g2, g3⟩ := look_good h.good ho
      exact ⟨by show f.safe ≤ (f.b ++ ys).length; rw [List.length_append]; omega, g3.append hb⟩
  refine ⟨{ k with fs := putL k.fs (segN 1 (j + 1)) ⟨(o.map Fle.b).getD [] ++ ys, (o.map Fle.safe).getD 0⟩, steps := k.steps + 1 }, ?_, ?_, rfl, len_put _ _ _, ?_, rfl⟩
  · unfold appK
    rw [h.on, if_neg (by decide), if_neg (by rw [hnm]; decide), if_neg (not_not_intro hro), ho, pass_on (by exact h.fu)]
  · refine ⟨h.on, h.fu, ⟨h.good.room, rise_put h.good.rise _ _, ?_, fun p hp => ?_, h.good.fu⟩, ?_, fun i hi => ?_, fun s f hs => ?_⟩
    · show used (putL _ _ _) ≤ k.room
      omega
    · rcases mem_put hp with rfl | hp
      · exact ⟨hnm, hsb.1, hsb.2⟩
      · exact h.good.each p hp
    · have := h.few; omega
    · show look (putL _ _ _) _ = _
      rw [look_put _ h.good.rise]
      by_cases e3 : i = j
      · subst e3
        rw [if_pos rfl, if_pos rfl, if_pos rfl, hbo.1, hbo.2.1]
      · rw [if_neg (fun e4 => e3 (by have := segN_inj e4; omega)), if_neg e3, if_neg e3]
        exact h.yes i (by omega)
    · have hs' : look (putL k.fs (segN 1 (j + 1)) ⟨(o.map Fle.b).getD [] ++ ys, (o.map Fle.safe).getD 0⟩) s = some f := hs
      rw [look_put _ h.good.rise] at hs'
      split at hs'
      · rename_i e3; exact ⟨j, by omega, e3⟩
      · obtain ⟨i, hi, e3⟩ := h.only s f hs'
        exact ⟨i, by omega, e3⟩
  · show used (putL _ _ _) = _
    omega
theorem Sg.new (room : Nat) (h : room ≤ 16777216) (B : Nat → List Int) (Z : Nat → Nat) : Sg (newK room) 0 B Z := ⟨rfl, rfl, newK_good h, by omega, fun j hj => by omega, fun s f hs => by cases hs⟩
theorem Sg.congr {k : Dk} {n : Nat} {B B' : Nat → List Int} {Z Z' : Nat → Nat} (h : Sg k n B Z) (e : ∀ j, j < n → B j = B' j ∧ Z j = Z' j) : Sg k n B' Z' :=
  ⟨h.on, h.fu, h.good, h.few, fun j hj => by rw [← (e j hj).1, ← (e j hj).2]; exact h.yes j hj, h.only⟩

/-- The power goes and comes, and nothing that was not safe is kept. -/
theorem look_rest (l : Fls) (s : Nm) : look (restL l []) s = (look l s).map fun f => if f.b.length = f.safe then f else restF f 0 := by
  induction l with
  | nil => rfl
  | cons p r ih =>
    obtain ⟨n, f⟩ := p
    unfold restL
    split
    · rename_i h
      unfold look
      split
      · simp [h]
      · exact ih
    · rename_i h
      unfold look
      split
      · simp [h]
      · exact ih
theorem restF_zero (f : Fle) : restF f 0 = ⟨f.b.take f.safe, f.safe⟩ := by unfold restF; simp
theorem rest_names (l : Fls) (keep : List Int) : (restL l keep).map Prod.fst = l.map Prod.fst := by
  induction l generalizing keep with
  | nil => rfl
  | cons p r ih =>
    obtain ⟨n, f⟩ := p
    unfold restL
    split
    · rw [List.map_cons, List.map_cons, ih]
    · rw [List.map_cons, List.map_cons, ih]
theorem Sg.rest {k : Dk} {n : Nat} {B : Nat → List Int} {Z : Nat → Nat} (h : Sg k n B Z) (hg : (restK k []).Good) : Sg (restK k []) n (fun j => (B j).take (Z j)) (fun j => min (Z j) (B j).length) := by
  refine ⟨rfl, rfl, hg, h.few, fun j hj => ?_, fun s f hs => ?_⟩
  · show look (restL k.fs []) _ = _
    have hy := h.yes j hj
    have hle := (look_good h.good hy).2.1
    have hle' : Z j ≤ (B j).length := hle
    rw [look_rest, hy]
    show some (if (B j).length = Z j then (⟨B j, Z j⟩ : Fle) else restF ⟨B j, Z j⟩ 0) = _
    by_cases e : (B j).length = Z j
    · rw [if_pos e, ← e, List.take_length, Nat.min_self]
    · rw [if_neg e, restF_zero, Nat.min_eq_left hle']
  · have hs' : look (restL k.fs []) s = some f := hs
    rw [look_rest] at hs'
    cases hl : look k.fs s with
    | none => rw [hl] at hs'; cases hs'
    | some f' => exact h.only s f' hl

end Go.Proofs.YtikkieaokfailaaGreatDoor
