/- What the document's readers answer, in the same words. -/
import Derived.Test.YtomkcmkbehcjnaaDoorAnsC
import Derived.Test.YtomkcmkbehcjnaaDoorRefX
import Derived.Test.YtomkcmkbehcjnaaDoorStzQ
namespace Go.Proofs.YtomkcmkbehcjnaaDoor
open Go.RowKit

theorem refUintD (X : List Int) (a : Option Addr) (n c : Nat) (w : World) (h : Rd w a n c X) (hn : n ≤ 1000000) : Calls Tryd.prog 39 #[.slice a n c] w (AnsU X w) :=
  (refUintR a n c X w h hn).mono fun _ _ g => ansU g
theorem refIntD (X : List Int) (a : Option Addr) (n c : Nat) (w : World) (h : Rd w a n c X) (hn : n ≤ 1000000) : Calls Tryd.prog 42 #[.slice a n c] w (AnsI X w) :=
  (refIntR a n c X w h hn).mono fun _ _ g => ansI g
theorem refFloatD (X : List Int) (a : Option Addr) (n c : Nat) (w : World) (h : Rd w a n c X) (hn : n ≤ 1000000) : Calls Tryd.prog 43 #[.slice a n c] w (AnsF X w) :=
  (refFloatR a n c X w h hn).mono fun _ _ g => ansF g
theorem refTextD (X : List Int) (m : Int) (a : Option Addr) (n c : Nat) (w : World) (h : Rd w a n c X) (hn : n ≤ 1000000) (hm0 : -9223372036854775808 ≤ m) (hm1 : m ≤ 9223372036854775807) : Calls Tryd.prog 40 #[.slice a n c, .int .i64 m] w (AnsT X m w) :=
  (refTextR a n c X m w h hn hm0 hm1).mono fun _ _ g => ansT g

theorem refTextDN (X : List Int) (m : Int) (a : Option Addr) (n c : Nat) (w : World) (h : Rd w a n c X) (hn : n ≤ 1000000) (hm0 : -9223372036854775808 ≤ m) (hm1 : m ≤ 9223372036854775807) : Calls Tryd.prog 40 #[.slice a n c, .int .i64 m] w fun e w' =>
    ∃ a' n' c', e = .returned (.tuple #[.string (tN X m), .slice a' n' c', .int .i64 ((terr X m : Nat) : Int)]) ∧ Rd w' a' n' c' (tR X m) ∧ Ext w w' ∧ ∀ ad, a' = some ad → w.heap.size ≤ ad.block := by
  refine (refTextN a n c X m w h hn hm0 hm1).mono ?_
  unfold tN tR
  rintro e w' (⟨h1, rfl, hx⟩ | ⟨h1, a1, n1, c1, rfl, hr, hx, hnew⟩)
  · rw [if_neg h1, if_neg h1]; exact ⟨none, 0, 0, rfl, rd_nil _, hx, fun _ h => by cases h⟩
  · rw [if_pos h1, if_pos h1, h1]; exact ⟨a1, n1, c1, rfl, hr, hx, hnew⟩

end Go.Proofs.YtomkcmkbehcjnaaDoor

/- Lists of texts grown one by one: the document's list, roostkeep.Texts. -/
namespace Go.Proofs.YtomkcmkbehcjnaaDoor
open Go.RowKit

theorem Tryd.info9S : (Tryd.prog.info? 9).map (fun i => (i.zero, i.size, i.bytes)) = some (some (.string ⟨#[]⟩), 1, 16) := by kernel_rfl

/-- The cells of texts. -/
def sc (ss : List ByteArray) : List Value := ss.map Value.string
theorem sc_len (ss : List ByteArray) : (sc ss).length = ss.length := by simp [sc]

theorem SRd.ofOwn {w : World} {base : Nat} {v : Value} {n : Nat} {ss : List ByteArray} (h : w.ownsRow base 9 1 v n (sc ss)) (hs : ∀ s ∈ ss, s.size ≤ 9223372036854775807) : ∃ a c, v = .slice a n c ∧ SRd w a n c ss := by
  have hl : ss.length = n := by have := h.1; simpa [sc_len] using this
  rcases h.2 with ⟨hv, hn⟩ | ⟨g, cap, cur, hv, hg, hh, hnc, hm, hsz, ht⟩
  · subst hv; subst hn
    exact ⟨none, 0, rfl, hl, Nat.le_refl _, by unfold maxLen; omega, fun _ => rfl, hs, fun ad ha => by cases ha⟩
  · subst hv
    refine ⟨some ⟨g, 0, none⟩, cap, rfl, hl, hnc, hm, (fun ha => by cases ha), hs, fun ad ha j hj => ?_⟩
    have hcell := h.cells (g := g) rfl j (.string (ss.getD j ⟨#[]⟩)) (by
      have : j < ss.length := by omega
      simp [sc, List.getD, List.getElem?_eq_getElem this])
    cases ha
    exact hcell

theorem sown_snoc {w : World} {B N : Nat} {v : Value} {pre : List ByteArray} {s : ByteArray} (h : w.ownsRow B 9 1 v (N + 1) (sc pre ++ [.string s])) : w.ownsRow B 9 1 v (N + 1) (sc (pre ++ [s])) := by
  simpa [sc] using h
theorem sbelow_step {B : Nat} {w wr w1 : World} {o : Obj} {v : Value} {n : Nat} {xs : List Value} (hbel : Below B w wr) (hB : B ≤ wr.heap.size) (hown : wr.ownsRow B 9 1 v n xs) (hg : (wr.alloc o).grownBy w1 v.ownBlock) : Below B w w1 :=
  (hbel.alloc hB o).grown hg (by simp; omega) (fun k hk => (hown.lt k hk).1)

/-- The texts of a list, cut. -/
def cutL (l : List ByteArray) (most long : Nat) : List ByteArray := (l.take most).map fun s => cutS s long

set_option maxHeartbeats 1600000 in
theorem texts_any (a : Option Addr) (n c : Nat) (ss : List ByteArray) (most long : Nat) (w : World) (h : SRd w a n c ss) (hm : most ≤ 1000) (hl : long ≤ 100000) :
    Calls Tryd.prog 24 #[.slice a n c, .int .i64 most, .int .i64 long] w fun e w' => ∃ v, e = .returned v ∧ w'.ownsRow w.heap.size 9 1 v (cutL ss most long).length (sc (cutL ss most long)) ∧ Below w.heap.size w w' := by
  obtain ⟨i0, hi, hz0, hz1, hz2⟩ := info_parts Tryd.info9S
  have hcap := h.cap
  have hmost := h.most
  have hlen := h.len
  unfold maxLen at hmost
  go_enter Tryd.func24, Tryd.ntmps24
  go_wp2
  go_loopw [7, 8] (fun v i wr => ∃ k : Nat, k ≤ n ∧ k ≤ most ∧ i = .int .i64 k ∧ wr.ownsRow w.heap.size 9 1 v k (sc ((ss.take k).map fun s => cutS s long)) ∧ Below w.heap.size w wr) (fun _ i _ => n - (intOf i).toNat)
  case atStart => exact ⟨0, by omega, by omega, rfl, World.ownsRow_nil .., Below.refl _ _⟩
  case round =>
    obtain ⟨k, hk, hkm, rfl, hown, hb⟩ := hrel
    have hsz := hb.size
    by_cases hkn : (k : Int) < (n : Int)
    · by_cases hkq : (k : Int) < (most : Int)
      · have hkl : k < ss.length := by omega
        obtain ⟨b, off, rfl, hcell⟩ := (h.carry hb).flat (by omega)
        have hc := hcell k (by omega)
        have hsm := h.small _ (getD_mem' hkl)
        have HX : Hid ((ss.take (k + 1)).map (fun s => cutS s long) = (ss.take k).map (fun s => cutS s long) ++ [cutS (ss.getD k ⟨#[]⟩) long]) := by
          show _ = _
          rw [List.take_add_one, List.map_append, List.getElem?_eq_getElem hkl]
          simp [List.getD, List.getElem?_eq_getElem hkl]
        clear hcell hkl h
        generalize ss.getD k ⟨#[]⟩ = s at hc hsm HX
        generalize (ss.take k).map (fun s => cutS s long) = pre at hown HX
        go_wp2_with (first
          | (go_at_call 23; refine (text_any s long _ hsm hl).mono ?_; rintro e w2 ⟨rfl, hw2⟩; replace hw2 := hw2.symm; subst hw2)
          | (at_builtin; refine wpList_append_own _ rfl _ _ 23 rfl w.heap.size 9 i0 (.string ⟨#[]⟩) 1 16 Tryd.underlying23 hi hz0 hz1 hz2 rfl (by decide) _ _ _ rfl (hown.alloc _) ⟨wr.heap.size, 0, none⟩ 1 1 [.string (cutS s long)] rfl rfl (cell_one_new _ _ _) (by simp [Value.oneCell']) (by unfold maxLen; omega) (by omega) (by simp; omega) ?_))
        intro v' w1 hown' hgrow _
        have hb1 := sbelow_step hb hsz hown hgrow
        have ho1 := sown_snoc hown'
        clear hown' hgrow hown hb
        go_wp2
        go_roundw
        case rel => exact ⟨k + 1, by omega, by omega, by go_num, by rw [HX.out]; exact ho1, hb1⟩
        case measure => simp [intOf]; omega
      · have HX : Hid (cutL ss most long = (ss.take k).map (fun s => cutS s long)) := by unfold cutL; rw [show k = most by omega]; rfl
        go_wp2
        go_ret
        rw [HX.out]
        exact ⟨_, rfl, by rw [List.length_map, List.length_take, Nat.min_eq_left (by omega)]; exact hown, hb⟩
    · have hkq : ¬ (k : Int) < (n : Int) := hkn
      have HX : Hid (cutL ss most long = (ss.take k).map (fun s => cutS s long)) := by
        unfold cutL; rw [List.take_of_length_le (by omega), List.take_of_length_le (by omega)]; rfl
      go_wp2
      go_ret
      rw [HX.out]
      exact ⟨_, rfl, by rw [List.length_map, List.length_take, Nat.min_eq_left (by omega)]; exact hown, hb⟩

/-- The error of the document's list: none of no texts. -/
def rl (X : List Int) : Nat := if (rdList X).2.2 ≠ 0 then (rdList X).2.2 else if (rdList X).1.length = 0 then 2 else 0

theorem rdTexts_len : ∀ (m : Nat) (X : List Int), (rdTexts m X).2.2 = 0 → (rdTexts m X).1.length = m
  | 0, _, _ => rfl
  | m + 1, X, h => by
    by_cases hE : terr X 1024 = 0
    · rw [rdTexts_step hE] at h ⊢
      simp only [List.length_cons]
      rw [rdTexts_len m _ h]
    · rw [rdTexts_stop hE] at h
      exact absurd h hE

abbrev RL (X : List Int) (w : World) (e : Ending) (w' : World) : Prop :=
  (rl X ≠ 0 ∧ e = .returned (.tuple #[.slice none 0 0, .slice none 0 0, .int .i64 (rl X : Nat)]) ∧ Below w.heap.size w w') ∨
  (rl X = 0 ∧ ∃ la ln lc a' n' c', e = .returned (.tuple #[.slice la ln lc, .slice a' n' c', .int .i64 0]) ∧ SRd w' la ln lc (rdList X).1 ∧ Rd w' a' n' c' (rdList X).2.1 ∧ Below w.heap.size w w' ∧ ∀ ad, la = some ad → w.heap.size ≤ ad.block)

set_option maxHeartbeats 1600000 in
set_option maxRecDepth 100000 in
theorem refList_any (a : Option Addr) (n c : Nat) (X : List Int) (w : World) (h : Rd w a n c X) (hn : n ≤ 100000) : Calls Tryd.prog 41 #[.slice a n c] w (RL X w) := by
  obtain ⟨i0, hi, hz0, hz1, hz2⟩ := info_parts Tryd.info9S
  obtain ⟨N, k, E, hs⟩ : ∃ N k E, scan X 0 0 = (N, k, E) := ⟨_, _, _, rfl⟩
  have cU := refUintD X a n c w h (by omega)
  have hNlt : N < 18446744073709551616 := by have := scan_lt X 0 0 h.bytes (by omega) (by simp); rw [hs] at this; exact this
  unfold AnsU at cU
  rw [hs] at cU
  by_cases hE : E = 0
  · subst hE
    have huN : uN X = N := by unfold uN; rw [hs]; rfl
    have huR : uR X = X.drop k := by unfold uR; rw [hs]; rfl
    rw [huN, huR] at cU
    by_cases h64 : (64 : Int) < (N : Int)
    · have HR : Hid (rl X = 5) := by
        have e : rdList X = ([], [], 5) := by unfold rdList; rw [hs, if_neg (by simp), if_pos (by simp; omega)]
        unfold rl; rw [e]; rfl
      clear hs huN huR
      go_enter Tryd.func41, Tryd.ntmps41
      go_wp2_with (go_at_call 39; refine cU.mono ?_; rintro e w1 ⟨a1, n1, c1, rfl, hr1, hb1⟩)
      go_ret3
      refine .inl ?_
      rw [HR.out]
      exact ⟨by decide, rfl, hb1⟩
    · by_cases hN0 : N = 0
      · have HR : Hid (rl X = 2) := by
          have e : rdList X = ([], X.drop k, 0) := by unfold rdList; rw [hs, if_neg (by simp), if_neg (by simp; omega), hN0]; rfl
          unfold rl; rw [e]; rfl
        subst hN0
        clear hs huN huR
        go_enter Tryd.func41, Tryd.ntmps41
        go_wp2_with (go_at_call 39; refine cU.mono ?_; rintro e w1 ⟨a1, n1, c1, rfl, hr1, hb1⟩)
        go_ret3
        refine .inl ?_
        rw [HR.out]
        exact ⟨by decide, rfl, hb1⟩
      · have hN0' : (((N : Nat) : Int) == 0) = false := by simp; omega
        have HL : Hid (rdList X = rdTexts N (X.drop k)) := (by unfold rdList; rw [hs, if_neg (by simp), if_neg (by simp; omega)] : rdList X = rdTexts N (X.drop k))
        have hYl : (X.drop k).length ≤ n := by rw [List.length_drop, h.len]; omega
        clear hs huN huR
        generalize X.drop k = Y at cU HL hYl
        go_enter Tryd.func41, Tryd.ntmps41
        go_wp2_with (go_at_call 39; refine cU.mono ?_; rintro e w1 ⟨a1, n1, c1, rfl, hr1, hb1⟩)
        have hb1' : Below w.heap.size w w1 := hb1
        go_loopw [0, 7, 8] (fun b v i wr => ∃ (j m : Nat) (pre : List ByteArray) (Z : List Int) (a2 : Option Addr) (n2 c2 : Nat), j + m = N ∧ i = .int .u64 j ∧ b = .slice a2 n2 c2 ∧ Rd wr a2 n2 c2 Z ∧ Z.length ≤ n ∧ wr.ownsRow w.heap.size 9 1 v j (sc pre) ∧ (∀ s ∈ pre, s.size ≤ 1024) ∧ Hid (rdTexts N Y = (pre ++ (rdTexts m Z).1, (rdTexts m Z).2)) ∧ Below w.heap.size w wr) (fun _ _ i _ => N - (intOf i).toNat)
        case atStart => exact ⟨0, N, [], Y, a1, n1, c1, by omega, rfl, rfl, hr1, hYl, World.ownsRow_nil .., (fun _ h => by cases h), rfl, hb1'⟩
        case round =>
          obtain ⟨j, m, pre, Z, a2, n2, c2, hjm, rfl, rfl, hr2, hZl, hown, hps, HY, hb⟩ := hrel
          clear hr1 hb1 hb1' cU h
          have hsz := hb.size
          cases m with
          | zero =>
            have hjN : j = N := by omega
            subst hjN
            have HE : rdTexts j Y = (pre, Z, 0) := by
              have := HY.out
              simp only [rdTexts, List.append_nil] at this
              exact this
            have HR : rl X = 0 := by
              have h1 := rdTexts_len j Y (by rw [HE])
              unfold rl; rw [HL.out, HE]
              rw [HE] at h1
              rw [if_neg (by simp), if_neg (by simp only at h1 ⊢; omega)]
            have HLL : rdList X = (pre, Z, 0) := HL.out.trans HE
            have HR' : Hid (rl X = 0) := HR
            have HLL' : Hid (rdList X = (pre, Z, 0)) := HLL
            clear HR HLL HE HY HL
            go_wp2
            go_ret3
            have hown2 := hown.2
            obtain ⟨la, lc, rfl, hs⟩ := SRd.ofOwn hown (fun s hs => by have := hps s hs; omega)
            refine .inr ⟨HR'.out, la, _, lc, a2, n2, c2, rfl, ?_, ?_, hb, fun ad he => ?_⟩
            · rw [HLL'.out]; exact hs
            · rw [HLL'.out]; exact hr2
            · subst he
              rcases hown2 with ⟨hv, _⟩ | ⟨g, cap, cur, hv, hg, _⟩
              · cases hv
              · cases hv; exact hg
          | succ m =>
            have hjN : (j : Int) < (N : Int) := by omega
            have hn2 := hr2.len
            have cT := refTextDN Z 1024 a2 n2 c2 wr hr2 (by omega) (by omega) (by omega)
            by_cases hE : terr Z 1024 = 0
            · have hS := tN_size Z
              have HS : Hid (rdTexts N Y = ((pre ++ [tN Z 1024]) ++ (rdTexts m (Z.drop (tlen Z))).1, (rdTexts m (Z.drop (tlen Z))).2)) := by
                have := HY.out
                rw [rdTexts_step hE] at this
                rw [this]
                show _ = _
                simp
              have hTR : tR Z 1024 = Z.drop (tlen Z) := by unfold tR tlen; rw [if_pos hE, List.drop_drop]
              have hZl' : (Z.drop (tlen Z)).length ≤ n := by rw [List.length_drop]; omega
              rw [hE, hTR] at cT
              generalize tN Z 1024 = s at cT HS hS
              generalize Z.drop (tlen Z) = Z' at cT HS hZl'
              clear hE HY hTR hn2
              have hjb : j + 1 ≤ 64 := by omega
              go_wp2_with (first
                | (go_at_call 40; refine cT.mono ?_; rintro e w2 ⟨a3, n3, c3, rfl, hr3, hx3, hnew⟩; have hown2 := own_bel hown hx3; have hb2 := hb.trans (Below.mono hx3 hsz); have hsz2 := hb2.size)
                | (at_builtin; refine wpList_append_own _ rfl _ _ 23 rfl w.heap.size 9 i0 (.string ⟨#[]⟩) 1 16 Tryd.underlying23 hi hz0 hz1 hz2 rfl (by decide) _ _ _ rfl (hown2.alloc _) ⟨w2.heap.size, 0, none⟩ 1 1 [.string s] rfl rfl (cell_one_new _ _ _) (by simp [Value.oneCell']) (by unfold maxLen; omega) (by omega) (by simp; omega) ?_))
              intro v' w4 hown' hgrow _
              have hb4 := sbelow_step hb2 hsz2 hown2 hgrow
              have ho4 := sown_snoc hown'
              have kg := Keep.ofGrown hgrow
              have ka : Keep (fun _ => False) w2 (w2.alloc (.cells #[.string s] 9)) := (Keep.refl _ _).alloc _
              have hr4 : Rd w4 a3 n3 c3 Z' := (hr3.keepP ka (fun _ _ _ h => h)).keepP kg (fun h0 ad he e => by have h1 := hnew ad he; have h2 := (hown.lt _ e).2; omega)
              clear hown' hgrow hown hb hown2 hr3 hx3 hb2
              go_wp2
              go_roundw
              case rel => exact ⟨j + 1, m, pre ++ [s], Z', a3, n3, c3, by omega, by go_num, rfl, hr4, hZl', ho4, (by intro x hx; rcases List.mem_append.1 hx with g | g; exact hps x g; simp at g; subst g; exact hS), HS, hb4⟩
              case measure => simp [intOf]; omega
            · have HS : Hid (rl X = terr Z 1024) := by
                unfold rl; rw [HL.out, HY.out, rdTexts_stop hE]; rw [if_pos hE]; rfl
              have hE' : (((terr Z 1024 : Nat) : Int) != 0) = true := by simp; omega
              go_wp2_with (go_at_call 40; refine cT.mono ?_; rintro e w2 ⟨a3, n3, c3, rfl, hr3, hx3, _⟩)
              go_ret3
              refine .inl ?_
              rw [HS.out]
              exact ⟨hE, rfl, hb.trans (Below.mono hx3 hsz)⟩
  · have HR : Hid (rl X = E) := by
      have e : rdList X = ([], [], E) := by unfold rdList; rw [hs, if_pos (by simpa using hE)]
      unfold rl; rw [e]; rw [if_pos hE]; rfl
    have hE' : ((E : Int) != 0) = true := by simp; omega
    clear hs
    go_enter Tryd.func41, Tryd.ntmps41
    go_wp2_with (go_at_call 39; refine cU.mono ?_; rintro e w1 ⟨a1, n1, c1, rfl, hr1, hb1⟩)
    go_ret3
    refine .inl ?_
    rw [HR.out]
    exact ⟨hE, rfl, hb1⟩

end Go.Proofs.YtomkcmkbehcjnaaDoor
