/- privacy: whether a rule fits; Allows. -/
import Derived.Test.YtiplalbicibahaaDoorPvG
set_option maxRecDepth 100000
namespace Go.Proofs.YtiplalbicibahaaDoor
open Go.RowKit Go.Joins Go.Shelf

/-! ### strings.TrimSuffix of ",ask" -/
def wAsk : By := [44, 97, 115, 107]
def endsA (l : By) : Bool := decide (4 ≤ l.length) && (l.drop (l.length - 4) == wAsk)
def trimA (l : By) : By := if endsA l = true then l.take (l.length - 4) else l
theorem slice_tail (s : ByteArray) : (s.extract (s.size - 4) s.size).toList = s.data.toList.drop (s.data.toList.length - 4) := by
  rw [Lib.toList_data, Lib.extract_eq]
  have hl : s.data.toList.length = s.size := by simp
  simp only [hl]
  rw [List.take_of_length_le (by rw [List.length_drop, hl]; omega)]
theorem slice_head (s : ByteArray) : s.extract 0 (s.size - 4) = ba (s.data.toList.take (s.data.toList.length - 4)) := by
  rw [Lib.extract_eq]
  have hl : s.data.toList.length = s.size := by simp
  simp only [hl, List.drop_zero, Nat.sub_zero]
  rfl
theorem hasSuffix_any (s : ByteArray) (w : World) (hs : s.size ≤ 9223372036854775807) :
    Calls Tryd.prog 57 #[.string s, .string ⟨#[44, 97, 115, 107]⟩] w fun e w' => e = .returned (.bool (endsA s.data.toList)) ∧ w' = w := by
  have hl : s.data.toList.length = s.size := by simp
  unfold endsA
  by_cases h : 4 ≤ s.size
  · have he : ((s.extract (s.size - 4) s.size).toList == [44, 97, 115, 107]) = (s.data.toList.drop (s.data.toList.length - 4) == wAsk) := by rw [slice_tail]; rfl
    rw [← he, hl, decide_eq_true h, Bool.true_and]
    have hd : (4 : Int) ≤ (s.size : Int) := by omega
    have hlo : ((s.size : Int) - 4 + 9223372036854775808) % 18446744073709551616 - 9223372036854775808 = ((s.size - 4 : Nat) : Int) := by omega
    clear he hl
    generalize hB : ((s.extract (s.size - 4) s.size).toList == [44, 97, 115, 107]) = B
    replace hs : Hid (s.size ≤ 9223372036854775807) := hs
    go_enter Tryd.func57, Tryd.ntmps57
    go_wp2
    go_ret
    exact ⟨rfl, rfl⟩
  · rw [hl, decide_eq_false h, Bool.false_and]
    have hd : ¬ (4 : Int) ≤ (s.size : Int) := by omega
    clear hl
    go_enter Tryd.func57, Tryd.ntmps57
    go_wp2
    go_ret
    exact ⟨rfl, rfl⟩
theorem ltrim_any (s : ByteArray) (w : World) (hs : s.size ≤ 9223372036854775807) :
    Calls Tryd.prog 52 #[.string s, .string ⟨#[44, 97, 115, 107]⟩] w fun e w' => e = .returned (.string (ba (trimA s.data.toList))) ∧ w' = w := by
  have cS := hasSuffix_any s w hs
  have hl : s.data.toList.length = s.size := by simp
  unfold trimA
  cases he : endsA s.data.toList with
  | true =>
    rw [if_pos rfl, ← slice_head]
    rw [he] at cS
    have h4 : 4 ≤ s.size := by
      unfold endsA at he
      rw [Bool.and_eq_true, decide_eq_true_eq, hl] at he
      exact he.1
    have hlo : ((s.size : Int) - 4 + 9223372036854775808) % 18446744073709551616 - 9223372036854775808 = ((s.size - 4 : Nat) : Int) := by omega
    have h0 : (0 : Int) ≤ ((s.size - 4 : Nat) : Int) := by omega
    have h1 : ((s.size - 4 : Nat) : Int) ≤ (s.size : Int) := by omega
    clear he hl h4
    replace hs : Hid (s.size ≤ 9223372036854775807) := hs
    go_enter Tryd.func52, Tryd.ntmps52
    go_wp2_with (go_at_call 57; refine cS.mono ?_; rintro e w' ⟨rfl, rfl⟩)
    go_ret
    exact ⟨rfl, rfl⟩
  | false =>
    rw [if_neg (by decide), ba_back]
    rw [he] at cS
    clear he hl
    go_enter Tryd.func52, Tryd.ntmps52
    go_wp2_with (go_at_call 57; refine cS.mono ?_; rintro e w' ⟨rfl, rfl⟩)
    go_ret
    exact ⟨rfl, rfl⟩
theorem trim_any (s : ByteArray) (w : World) (hs : s.size ≤ 9223372036854775807) :
    Calls Tryd.prog 45 #[.string s, .string ⟨#[44, 97, 115, 107]⟩] w fun e w' => e = .returned (.string (ba (trimA s.data.toList))) ∧ w' = w := by
  have cT := ltrim_any s w hs
  generalize ba (trimA s.data.toList) = T at cT ⊢
  go_enter Tryd.func45, Tryd.ntmps45
  go_wp2_with (go_at_call 52; refine cT.mono ?_; rintro e w' ⟨rfl, rfl⟩)
  go_ret
  exact ⟨rfl, rfl⟩

/-! ### slices.Contains -/
theorem index_any (a : Option Addr) (n c : Nat) (ts : List By) (v : By) (w : World) (hR : TRd w a n c ts) :
    Calls Tryd.prog 53 #[.slice a n c, .string (ba v)] w fun e w' => (∃ k : Int, e = .returned (.int .i64 k) ∧ decide (0 ≤ k) = ts.contains v) ∧ w' = w := by
  have Hn : Hid (ts.length = n) := hR.len
  have hnc := hR.cap
  have hcm := hR.most
  unfold maxLen at hcm
  have HR : Hid (TRd w a n c ts) := hR
  clear hR
  go_enter Tryd.func53, Tryd.ntmps53
  go_upto_region 2 with fail
  go_loopw [5, 8] (fun _ s8 wr => ∃ j : Nat, s8 = .int .i64 j ∧ j ≤ n ∧ Hid (∀ t ∈ ts.take j, t ≠ v) ∧ Hid (wr = w)) (fun _ s8 _ => n - (intOf s8).toNat)
  case atStart => exact ⟨0, rfl, by omega, fun t ht => by simp at ht, rfl⟩
  case round =>
    obtain ⟨j, rfl, hjn, HP, HW⟩ := hrel
    by_cases hlt : j < n
    · have hcl : (j : Int) < (n : Int) := by omega
      have HR2 : Hid (TRd wr a n c ts) := by show TRd _ _ _ _ _; rw [HW.out]; exact HR.out
      obtain ⟨b, off, rfl, hce⟩ := HR2.out.flat (by omega)
      have hcj := hce j hlt
      clear hce
      obtain ⟨y, hy⟩ : ∃ y, ts[j]? = some y := ⟨_, List.getElem?_eq_getElem (by rw [Hn.out]; exact hlt)⟩
      rw [show ts.getD j [] = y by rw [List.getD_eq_getElem?_getD, hy]; rfl] at hcj
      have HTk : Hid (ts.take (j + 1) = ts.take j ++ [y]) := by
        show _ = _
        rw [List.take_add_one, hy]; rfl
      by_cases hv : y = v
      · subst hv
        have he : ((ba y).toList == (ba y).toList) = true := by simp
        have HC : Hid (ts.contains y = true) := by
          show _ = _
          rw [List.contains_iff_mem]
          exact List.mem_of_getElem? hy
        clear hy HTk HP HR2 HR
        go_wp2
        go_ret
        exact ⟨⟨_, rfl, by rw [HC.out]; simp⟩, HW.out⟩
      · have he : ((ba v).toList == (ba y).toList) = false := by
          rw [Lib.toList_data, Lib.toList_data, ba_list, ba_list]
          exact beq_false_of_ne (fun e => hv e.symm)
        have HP2 : Hid (∀ t ∈ ts.take (j + 1), t ≠ v) := fun t ht => by
          rw [HTk.out] at ht
          rcases List.mem_append.1 ht with q | q
          · exact HP.out t q
          · have : t = y := by simpa using q
            rw [this]; exact hv
        clear hy HTk HP HR2 hv
        go_wp2
        exact ⟨⟨j + 1, by go_num, by omega, HP2.out, HW.out⟩, by simp [intOf]; omega⟩
    · have hcl : ¬ (j : Int) < (n : Int) := by omega
      obtain rfl : j = n := by omega
      have HC : Hid (¬ v ∈ ts) := by
        have h := HP.out
        rw [List.take_of_length_le (by rw [Hn.out]; exact Nat.le_refl _)] at h
        exact fun hc => h v hc rfl
      clear HP
      go_wp2
      go_ret
      exact ⟨⟨-1, rfl, by simp [HC.out]⟩, HW.out⟩
theorem contains_any (a : Option Addr) (n c : Nat) (ts : List By) (v : By) (w : World) (hR : TRd w a n c ts) :
    Calls Tryd.prog 47 #[.slice a n c, .string (ba v)] w fun e w' => e = .returned (.bool (ts.contains v)) ∧ w' = w := by
  have cI := index_any a n c ts v w hR
  clear hR
  generalize ts.contains v = B at *
  generalize ba v = V at *
  go_enter Tryd.func47, Tryd.ntmps47
  go_wp2_with (go_at_call 53; refine cI.mono ?_; clear cI; rintro e w1 ⟨⟨k, rfl, hk⟩, hw1⟩; replace hw1 := hw1.symm; subst hw1)
  go_ret
  exact ⟨rfl, rfl⟩

/-! ### fitting -/
/-- Who is asked about. -/
structure Qy where
  i : Bool
  c : By
  gs : List By
  s : By
def fitsR (q : Qy) (r : Rul) : Bool :=
  if ((q.i && !r.i) || (!q.i && !r.o)) = true then false
  else if (r.k == wJid) = true then r.v == q.c
  else if (r.k == wGroup) = true then q.gs.contains r.v
  else if (r.k == wSub) = true then r.v == trimA q.s
  else true
/-- What the closure holds. -/
structure FitAt (w : World) (g : Nat) (q : Qy) (a : Option Addr) (n c : Nat) : Prop where
  b0 : w.heap[g]? = some (.cells #[.bool q.i] 4 (0, 0))
  b1 : w.heap[g + 1]? = some (.cells #[.string (ba q.c)] 9 (0, 0))
  b2 : w.heap[g + 2]? = some (.cells #[.slice a n c] 37 (0, 0))
  b3 : w.heap[g + 3]? = some (.cells #[.string (ba (trimA q.s))] 9 (0, 0))
  gs : TRd w a n c q.gs
theorem FitAt.below {w w' : World} {g : Nat} {q : Qy} {a : Option Addr} {n c : Nat} (h : FitAt w g q a n c) (hb : Below w.heap.size w w') : FitAt w' g q a n c :=
  ⟨box_below h.b0 hb, box_below h.b1 hb, box_below h.b2 hb, box_below h.b3 hb, h.gs.below hb⟩
abbrev fitV (g : Nat) : Value := .func (.func 46) #[] #[.pointer (some ⟨g, 0, none⟩), .pointer (some ⟨g + 1, 0, none⟩), .pointer (some ⟨g + 2, 0, none⟩), .pointer (some ⟨g + 3, 0, none⟩)]
theorem fitting_any (q : Qy) (a : Option Addr) (n c : Nat) (w : World) (hR : TRd w a n c q.gs) (hs : q.s.length ≤ 9223372036854775807) :
    Calls Tryd.prog 33 #[.bool q.i, .string (ba q.c), .slice a n c, .string (ba q.s)] w fun e w' => e = .returned (fitV w.heap.size) ∧ FitAt w' w.heap.size q a n c ∧ Below w.heap.size w w' := by
  have hmf : ∀ (fn : Fn) (first cap : Array Value) (w : World), (Instr.makeFunc fn first cap).run Tryd.prog w = .ok (.func fn first cap) w := fun _ _ _ _ => rfl
  have cT := fun w => trim_any (ba q.s) w (by rw [ba_size]; exact hs)
  rw [ba_list] at cT
  have hb3 : Below w.heap.size w ((((w.alloc (.cells #[.bool q.i] 4)).alloc (.cells #[.string (ba q.c)] 9)).alloc (.cells #[.slice a n c] 37)).alloc (.cells #[.string (ba (trimA q.s))] 9)) :=
    (((below1 w _).alloc (by simp) _).alloc (by simp; omega) _).alloc (by simp; omega) _
  have HF : Hid (FitAt ((((w.alloc (.cells #[.bool q.i] 4)).alloc (.cells #[.string (ba q.c)] 9)).alloc (.cells #[.slice a n c] 37)).alloc (.cells #[.string (ba (trimA q.s))] 9)) w.heap.size q a n c ∧ Below w.heap.size w ((((w.alloc (.cells #[.bool q.i] 4)).alloc (.cells #[.string (ba q.c)] 9)).alloc (.cells #[.slice a n c] 37)).alloc (.cells #[.string (ba (trimA q.s))] 9))) :=
    ⟨⟨push_old (push_old (push_old (push_at _ _ rfl))), push_old (push_old (push_at _ _ (by simp))), push_old (push_at _ _ (by simp)), push_at _ _ (by simp), hR.below hb3⟩, hb3⟩
  clear hR hb3 hs
  obtain ⟨qi, qc, qg, qs⟩ := q
  dsimp only at *
  generalize ba (trimA qs) = T at *
  generalize ba qs = S at *
  generalize ba qc = C at *
  go_enter Tryd.func33, Tryd.ntmps33
  go_wp2_with (go_at_call 45; refine (cT _).mono ?_; clear cT; rintro e w1 ⟨rfl, hw1⟩; replace hw1 := hw1.symm; subst hw1)
  go_ret
  exact ⟨rfl, HF.out⟩

end Go.Proofs.YtiplalbicibahaaDoor
