/- scram.First: a client's first message. -/
import Derived.Test.YtmilcknboaefkaaGreatDoorScM
import Derived.Defers
import Derived.Recover
import Derived.Laws.Pointers
namespace Go.Proofs.YtmilcknboaefkaaGreatDoor
open Go.RowKit Go.Shelf

/-! ### each step either way -/
theorem sign_two (B : Nat) (L p : Tx) (w : World) (hA : RAt w B L) :
    Calls Tryz.prog 60 #[.pointer (some ⟨B, 0, none⟩), .string ⟨p.toArray⟩] w fun e w' => ((∃ R, sgn p L = some R ∧ e = .returned (.tuple #[]) ∧ RAt w' B R) ∨ (sgn p L = none ∧ e = .panicked (gaveUp 2))) ∧ Keep (fun j => j = B) w w' := by
  cases h : sgn p L with
  | some R => exact (sign_ok B L p R w hA h).mono fun e w' k => ⟨.inl ⟨R, rfl, k.1, k.2.1⟩, k.2.2⟩
  | none => exact (sign_no B L p w hA h).mono fun e w' k => ⟨.inr ⟨rfl, k.1⟩, k.2⟩
theorem header_two (B : Nat) (L : Tx) (w : World) (hA : RAt w B L) :
    Calls Tryz.prog 74 #[.pointer (some ⟨B, 0, none⟩)] w fun e w' => ((∃ H R, hdr L = some (H, R) ∧ e = .returned (.string ⟨H.toArray⟩) ∧ RAt w' B R) ∨ (hdr L = none ∧ e = .panicked (gaveUp 2))) ∧ Keep (fun j => j = B) w w' := by
  cases h : hdr L with
  | some p => obtain ⟨H, R⟩ := p; exact (header_ok B L H R w hA h).mono fun e w' k => ⟨.inl ⟨H, R, rfl, k.1, k.2.1⟩, k.2.2⟩
  | none => exact (header_no B L w hA h).mono fun e w' k => ⟨.inr ⟨rfl, k.1⟩, k.2⟩
theorem nonce_two (B : Nat) (L : Tx) (most : Nat) (w : World) (hA : RAt w B L) (hL : L.length ≤ 1000000) (hm : most ≤ 100000) (hM : Mx w) :
    Calls Tryz.prog 61 #[.pointer (some ⟨B, 0, none⟩), .int .i64 most] w fun e w' => ((nonceB most (prt L) = true ∧ e = .returned (.string ⟨(prt L).toArray⟩) ∧ RAt w' B (rst L)) ∨ (nonceB most (prt L) = false ∧ e = .panicked (gaveUp 2))) ∧ Keep (fun j => j = B) w w' := by
  cases h : nonceB most (prt L) with
  | true => exact (nonce_ok B L most w hA hL hm hM h).mono fun e w' k => ⟨.inl ⟨rfl, k.1, k.2.1⟩, k.2.2⟩
  | false => exact (nonce_no B L most w hA hL hm hM h).mono fun e w' k => ⟨.inr ⟨rfl, k.1⟩, k.2⟩
theorem end_two (B : Nat) (L : Tx) (w : World) (hA : RAt w B L) :
    Calls Tryz.prog 64 #[.pointer (some ⟨B, 0, none⟩)] w fun e w' => ((L = [] ∧ e = .returned (.tuple #[])) ∨ (L ≠ [] ∧ e = .panicked (gaveUp 2))) ∧ w' = w := by
  by_cases h : L = []
  · subst h; exact (end_ok B w hA).mono fun e w' k => ⟨.inl ⟨rfl, k.1⟩, k.2⟩
  · exact (end_no B L w hA h).mono fun e w' k => ⟨.inr ⟨h, k.1⟩, k.2⟩

theorem RAt.other {w : World} {B R i : Nat} {L : Tx} (h : RAt w B L) (hne : B ≠ R) (v : Value) : RAt (w.setCell ⟨R, i, none⟩ v) B L := by
  unfold RAt; rw [Below.heap_setCell _ _ _ _ hne]; exact h
theorem sgn_len {p l r : Tx} (h : sgn p l = some r) : r.length ≤ l.length := by rw [sgn_some.1 h, List.length_append]; omega
theorem hdr_len {l H r : Tx} (h : hdr l = some (H, r)) : r.length ≤ l.length := by
  unfold hdr at h
  split at h
  · rename_i h1; cases h; exact sgn_len h1
  · simp only [Option.map_eq_some_iff] at h; obtain ⟨r', h1, h2⟩ := h; cases h2; exact sgn_len h1
theorem rst_len (l : Tx) : (rst l).length ≤ l.length := by unfold rst; rw [List.length_drop]; omega

/-! ### the first message -/
structure FP where
  hd : Tx
  us : Tx
  no : Tx
  ba : Tx
def fcells (f : FP) : Array Value := #[.string ⟨f.hd.toArray⟩, .string ⟨f.us.toArray⟩, .string ⟨f.no.toArray⟩, .string ⟨f.ba.toArray⟩]
def noFP : FP := ⟨[], [], [], []⟩
def first4 (H b U r : Tx) : Option FP := if nonceB 128 (prt r) = true then (if rst r = [] then some ⟨H, U, prt r, b⟩ else none) else none
def first3 (H b U r : Tx) : Option FP := (sgn [44, 114, 61] r).bind fun r2 => first4 H b U r2
def first2 (H b r : Tx) : Option FP := (nameO (prt r)).bind fun U => first3 H b U (rst r)
def first1 (H b : Tx) : Option FP := (sgn [110, 61] b).bind fun r => first2 H b r
def firstO (L : Tx) : Option FP := (hdr L).bind fun p => first1 p.1 p.2
def firstE (L : Tx) : FP × Nat := if 1024 < L.length then (noFP, 5) else match firstO L with
  | some f => (f, 0)
  | none => (noFP, 2)
def GaveF (p : FP × Nat) (e : Ending) : Prop := (p.2 = 0 ∧ e = .returned (.agg (fcells p.1))) ∨ (p.2 ≠ 0 ∧ e = .panicked (gaveUp p.2))
theorem firstE_none {L : Tx} (h : L.length ≤ 1024) (h1 : firstO L = none) : firstE L = (noFP, 2) := by unfold firstE; rw [if_neg (by omega), h1]

def FAt (w : World) (R : Nat) (a b c d : Value) : Prop := w.heap[R]? = some (.cells #[a, b, c, d] 35 (0, 0))
theorem FAt.lt {w : World} {R : Nat} {a b c d : Value} (h : FAt w R a b c d) : R < w.heap.size := (Array.getElem?_eq_some_iff.1 h).1
theorem FAt.keep {S : Nat → Prop} {w w' : World} {R : Nat} {a b c d : Value} (h : FAt w R a b c d) (hk : Keep S w w') (hs : ¬ S R) : FAt w' R a b c d := (hk.block R h.lt hs).trans h
theorem FAt.below {w w' : World} {R : Nat} {a b c d : Value} (h : FAt w R a b c d) (hb : Below w.heap.size w w') : FAt w' R a b c d := (hb.block R h.lt).trans h
theorem FAt.s0 {w : World} {R : Nat} {a b c d : Value} (h : FAt w R a b c d) (v : Value) : FAt (w.setCell ⟨R, 0, none⟩ v) R v b c d := by unfold FAt at h ⊢; simp [World.setCell, Array.getElem?_modify, h]
theorem FAt.s1 {w : World} {R : Nat} {a b c d : Value} (h : FAt w R a b c d) (v : Value) : FAt (w.setCell ⟨R, 1, none⟩ v) R a v c d := by unfold FAt at h ⊢; simp [World.setCell, Array.getElem?_modify, h]
theorem FAt.s2 {w : World} {R : Nat} {a b c d : Value} (h : FAt w R a b c d) (v : Value) : FAt (w.setCell ⟨R, 2, none⟩ v) R a b v d := by unfold FAt at h ⊢; simp [World.setCell, Array.getElem?_modify, h]
theorem FAt.s3 {w : World} {R : Nat} {a b c d : Value} (h : FAt w R a b c d) (v : Value) : FAt (w.setCell ⟨R, 3, none⟩ v) R a b c v := by unfold FAt at h ⊢; simp [World.setCell, Array.getElem?_modify, h]
theorem FAt.c0 {w : World} {R : Nat} {a b c d : Value} (h : FAt w R a b c d) : w.cell? ⟨R, 0, none⟩ = some a := by unfold FAt at h; simp [World.cell?, h]
theorem FAt.c1 {w : World} {R : Nat} {a b c d : Value} (h : FAt w R a b c d) : w.cell? ⟨R, 1, none⟩ = some b := by unfold FAt at h; simp [World.cell?, h]
theorem FAt.c2 {w : World} {R : Nat} {a b c d : Value} (h : FAt w R a b c d) : w.cell? ⟨R, 2, none⟩ = some c := by unfold FAt at h; simp [World.cell?, h]
theorem FAt.c3 {w : World} {R : Nat} {a b c d : Value} (h : FAt w R a b c d) : w.cell? ⟨R, 3, none⟩ = some d := by unfold FAt at h; simp [World.cell?, h]
theorem FAt.fz {w : World} {R : Nat} {a b c d : Value} (h : FAt w R a b c d) (i : Nat) : w.frozen? ⟨R, i, none⟩ = false := by unfold FAt at h; simp [World.frozen?, h]

set_option maxHeartbeats 4000000 in
set_option maxRecDepth 100000 in
theorem rfirst_any (B : Nat) (L : Tx) (w : World) (hA : RAt w B L) (hM : Mx w) (hMB : 5 ≠ B) (hT : Lib.Utf8Tabs 1 2 w) (hT1 : 1 ≠ B) (hT2 : 2 ≠ B) :
    Calls Tryz.prog 47 #[.pointer (some ⟨B, 0, none⟩)] w fun e w' => GaveF (firstE L) e ∧ Keep (fun j => j = B) w w' := by
  have hBl := hA.lt
  have hw0 : Keep (fun j => j = B) w (w.alloc (.cells #[.string ⟨#[]⟩, .string ⟨#[]⟩, .string ⟨#[]⟩, .string ⟨#[]⟩] 35)) := (Keep.refl _ w).alloc _
  have hF0 : FAt (w.alloc (.cells #[.string ⟨#[]⟩, .string ⟨#[]⟩, .string ⟨#[]⟩, .string ⟨#[]⟩] 35)) w.heap.size (.string ⟨#[]⟩) (.string ⟨#[]⟩) (.string ⟨#[]⟩) (.string ⟨#[]⟩) := heap_alloc_new w _
  have hr0 : RAt (w.alloc (.cells #[.string ⟨#[]⟩, .string ⟨#[]⟩, .string ⟨#[]⟩, .string ⟨#[]⟩] 35)) B L := hA.below ((Below.refl _ w).alloc (Nat.le_refl _) _)
  have HM : Hid (∀ w', Keep (fun j => j = B) w w' → Mx w') := fun w' hk => hM.keep hk hMB
  have HT : Hid (∀ w', Keep (fun j => j = B) w w' → Lib.Utf8Tabs 1 2 w') := fun w' hk => tabs_keep hT hk hT1 hT2
  have hRB : ¬ w.heap.size = B := by omega
  have hBR : B ≠ w.heap.size := by omega
  have hST : ∀ {u : World} {i : Nat} {v : Value}, Keep (fun j => j = B) w u → Keep (fun j => j = B) w (u.setCell ⟨w.heap.size, i, none⟩ v) := fun hk => hk.setNew (Nat.le_refl _) _
  have HST : Hid _ := @hST
  clear hST
  clear hM hT
  by_cases hlen : 1024 < L.length
  · have e : firstE L = (noFP, 5) := by unfold firstE; rw [if_pos hlen]
    rw [e]
    have cB := bound_no B L _ hr0 hlen
    go_enter Tryz.func47, Tryz.ntmps47
    go_wp2_with (go_at_call 73; refine cB.mono ?_; rintro e w1 ⟨rfl, rfl⟩)
    exact ⟨rfl, .inr ⟨by decide, rfl⟩, hw0⟩
  have hl : L.length ≤ 1024 := by omega
  have cB := bound_ok B L _ hr0 hl
  have HN : Hid (firstO L = none → firstE L = (noFP, 2)) := firstE_none hl
  have HS : Hid (∀ f, firstO L = some f → firstE L = (f, 0)) := fun f h => by unfold firstE; rw [if_neg hlen, h]
  go_enter Tryz.func47, Tryz.ntmps47
  go_wp2_with (first
    | (go_at_call 73; refine cB.mono ?_; rintro e w1 ⟨rfl, rfl⟩)
    | (go_at_call 74; refine (header_two B L _ hr0).mono ?_))
  rintro e w2 ⟨⟨H, b, hh, rfl, hr2⟩ | ⟨hh, rfl⟩, hk2⟩
  rotate_left
  · exact ⟨rfl, .inr (by rw [HN.out (by unfold firstO; rw [hh]; rfl)]; exact ⟨by decide, rfl⟩), hw0.trans hk2⟩
  have hF2 := hF0.keep hk2 hRB
  have f2 := hF2.fz 0
  have q2 := hF2.c0
  have hk2' : Keep (fun j => j = B) w w2 := hw0.trans hk2
  have hlb := hdr_len hh
  have HX1 : Hid (firstO L = first1 H b) := by show _ = _; unfold firstO; rw [hh]; rfl
  have hr3 := hr2.other (i := 0) hBR (.string ⟨H.toArray⟩)
  have hF3 := hF2.s0 (.string ⟨H.toArray⟩)
  have hk3 := HST.out (i := 0) (v := .string ⟨H.toArray⟩) hk2'
  have hc3 := hr3.cell
  clear hh hr0 hF0 cB hA hw0 hF2 hr2 hk2
  go_wp2_with (first
    | (go_at_call 75; refine (clone_any _ _ (by rw [size_tx]; omega)).mono ?_; rintro e w4 ⟨rfl, hb4⟩; have f4 := (hF3.below hb4).fz 3; have q4 := (hF3.below hb4).c3; have hr4 := (hr3.below hb4).other (i := 3) hBR (.string ⟨b.toArray⟩))
    | (go_at_call 60; refine (sign_two B b [110, 61] _ hr4).mono ?_))
  rintro e w5 ⟨hor, hk5⟩
  have hF5 := (hF3.below hb4).s3 (.string ⟨b.toArray⟩)
  have hk4 := HST.out (i := 3) (v := .string ⟨b.toArray⟩) (hk3.trans (Keep.ofBelow hb4))
  clear hr3 hF3 hk3 hc3 f2 q2 hk2'
  rcases hor with ⟨r1, hh, rfl, hr5⟩ | ⟨hh, rfl⟩
  rotate_left
  · exact ⟨rfl, .inr (by rw [HN.out (by rw [HX1.out]; unfold first1; rw [hh]; rfl)]; exact ⟨by decide, rfl⟩), hk4.trans hk5⟩
  have hl1 := sgn_len hh
  have HX2 : Hid (firstO L = first2 H b r1) := by show _ = _; rw [HX1.out]; unfold first1; rw [hh]; rfl
  have hF6 := hF5.keep hk5 hRB
  have hk6 := hk4.trans hk5
  clear hh HX1 hr4 hF5 hk4 f4 q4 hk5 hb4
  go_wp2_with (go_at_call 76; refine (name_any B r1 _ hr5 (by omega) (HM.out _ hk6) hMB (HT.out _ hk6) hT1 hT2).mono ?_)
  rintro e w7 ⟨ha, hr7, hk7⟩
  cases hn : nameO (prt r1) with
  | none =>
    rw [hn] at ha
    obtain rfl : e = .panicked (gaveUp 2) := ha
    exact ⟨rfl, .inr (by rw [HN.out (by rw [HX2.out]; unfold first2; rw [hn]; rfl)]; exact ⟨by decide, rfl⟩), hk6.trans hk7⟩
  | some U =>
    rw [hn] at ha
    obtain rfl : e = .returned (.string ⟨U.toArray⟩) := ha
    have HX3 : Hid (firstO L = first3 H b U (rst r1)) := by show _ = _; rw [HX2.out]; unfold first2; rw [hn]; rfl
    have hl2 := rst_len r1
    have hF7 := hF6.keep hk7 hRB
    have f7 := hF7.fz 1
    have q7 := hF7.c1
    have hr8 := hr7.other (i := 1) hBR (.string ⟨U.toArray⟩)
    have hF8 := hF7.s1 (.string ⟨U.toArray⟩)
    have hk8 := HST.out (i := 1) (v := .string ⟨U.toArray⟩) (hk6.trans hk7)
    clear hn HX2 hr5 hF6 hk6 hr7 hF7 hk7
    go_wp2_with (go_at_call 60; refine (sign_two B (rst r1) [44, 114, 61] _ hr8).mono ?_)
    rintro e w9 ⟨⟨r2, hh, rfl, hr9⟩ | ⟨hh, rfl⟩, hk9⟩
    rotate_left
    · exact ⟨rfl, .inr (by rw [HN.out (by rw [HX3.out]; unfold first3; rw [hh]; rfl)]; exact ⟨by decide, rfl⟩), hk8.trans hk9⟩
    have hl3 := sgn_len hh
    have HX4 : Hid (firstO L = first4 H b U r2) := by show _ = _; rw [HX3.out]; unfold first3; rw [hh]; rfl
    have hF9 := hF8.keep hk9 hRB
    have hk9' := hk8.trans hk9
    clear hh HX3 hr8 hF8 hk8 f7 q7 hk9
    have cN := nonce_two B r2 128 w9 hr9 (by omega) (by omega) (HM.out _ hk9')
    go_wp2_with (go_at_call 61; refine cN.mono ?_)
    rintro e w10 ⟨⟨hh, rfl, hr10⟩ | ⟨hh, rfl⟩, hk10⟩
    rotate_left
    · exact ⟨rfl, .inr (by rw [HN.out (by rw [HX4.out]; unfold first4; rw [hh]; rfl)]; exact ⟨by decide, rfl⟩), hk9'.trans hk10⟩
    have hF10 := hF9.keep hk10 hRB
    have f10 := hF10.fz 2
    have q10 := hF10.c2
    have hr11 := hr10.other (i := 2) hBR (.string ⟨(prt r2).toArray⟩)
    have hF11 := hF10.s2 (.string ⟨(prt r2).toArray⟩)
    have hk11 := HST.out (i := 2) (v := .string ⟨(prt r2).toArray⟩) (hk9'.trans hk10)
    have HX5 : Hid (firstO L = if rst r2 = [] then some ⟨H, U, prt r2, b⟩ else none) := by show _ = _; rw [HX4.out]; unfold first4; rw [if_pos hh]
    clear hh HX4 hr9 hF9 hk9' hr10 hF10 hk10 cN
    have c0 := hF11.c0
    have c1 := hF11.c1
    have c2 := hF11.c2
    have c3 := hF11.c3
    have g0 := hF11.fz 0
    have g1 := hF11.fz 1
    have g2 := hF11.fz 2
    have g3 := hF11.fz 3
    go_wp2_with (go_at_call 64; refine (end_two B (rst r2) _ hr11).mono ?_)
    rintro e w12 ⟨⟨hh, rfl⟩ | ⟨hh, rfl⟩, rfl⟩
    rotate_left
    · exact ⟨rfl, .inr (by rw [HN.out (by rw [HX5.out, if_neg hh])]; exact ⟨by decide, rfl⟩), hk11⟩
    have hE := HS.out _ (by rw [HX5.out, if_pos hh])
    have HE : Hid _ := hE
    clear hE hh HX5 hr11 f10 q10 HS HN
    go_wp2
    have hF12 := (((hF11.s0 (.string ⟨H.toArray⟩)).s1 (.string ⟨U.toArray⟩)).s2 (.string ⟨(prt r2).toArray⟩)).s3 (.string ⟨b.toArray⟩)
    have d0 := hF12.c0
    have d1 := hF12.c1
    have d2 := hF12.c2
    have d3 := hF12.c3
    refine bodyPost_ret (v := .agg (fcells ⟨H, U, prt r2, b⟩)) (by simp [results, Tryz.results47, go_sem, d0, d1, d2, d3, fcells]) rfl ⟨.inl (by rw [HE.out]; exact ⟨rfl, rfl⟩), HST.out (HST.out (HST.out (HST.out hk11)))⟩

theorem firstE_cases (L : Tx) : (firstE L).2 = 0 ∨ (firstE L).1 = noFP := by
  unfold firstE
  split
  · exact .inr rfl
  · split
    · exact .inl rfl
    · exact .inr rfl

theorem catchF_panicking (p : Addr) (x n : Int) (older : List PanicEntry) (w : World) (hc : w.cell? p = some (.int .i64 x)) (hz : w.frozen? p = false) :
    CallsD Tryz.prog 72 #[.pointer (some p)] (.panicking ({ v := .iface 103 (.agg #[.int .i64 n]), recovered := false } :: older)) w fun e u' w' =>
      e = .returned (.tuple #[]) ∧ u' = .panicking ({ v := .iface 103 (.agg #[.int .i64 n]), recovered := true } :: older) ∧ w' = w.setCell p (.int .i64 n) := by
  refine callsD_of_wpS Tryz.func72 rfl fun c₀ cs hu => ?_
  apply wpS_seq
  apply wpS_region
  simp [wpOpsS, go_sem, recoverD, hu, Tryz.ntmps72, Exit.thenS]
  refine wpS_of_wp ?_
  rw [show #[Value.pointer (some p)] ++ ((Array.replicate 7 undef).setIfInBounds 1 (Value.iface 103 (Value.agg #[Value.int IntKind.i64 n]))).setIfInBounds 0 (Value.iface 103 (Value.agg #[Value.int IntKind.i64 n])) = #[Value.pointer (some p), Value.iface 103 (Value.agg #[Value.int IntKind.i64 n]), Value.iface 103 (Value.agg #[Value.int IntKind.i64 n]), undef, undef, undef, undef, undef] from rfl]
  have hta : (Instr.typeAssert (Value.iface 103 (Value.agg #[Value.int IntKind.i64 n])) 20 103 false).run Tryz.prog w = .ok (Value.agg #[Value.int IntKind.i64 n]) w := by
    simp [Instr.typeAssert, go_sem]
  have hfd : (Instr.field 103 (Value.agg #[Value.int IntKind.i64 n]) 0).run Tryz.prog w = .ok (Value.int IntKind.i64 n) w := by
    simp [Instr.field, go_sem, asAgg]
  go_wp2
  simp [bodyPostS, results, Tryz.results72]
theorem catchF_idle (p : Addr) (w : World) :
    CallsD Tryz.prog 72 #[.pointer (some p)] .returning w fun e u' w' => e = .returned (.tuple #[]) ∧ u' = .returning ∧ w' = w := by
  refine callsD_of_wpS Tryz.func72 rfl fun c₀ cs hu => ?_
  apply wpS_seq
  apply wpS_region
  simp [wpOpsS, go_sem, recoverD, hu, Tryz.ntmps72, Exit.thenS]
  refine wpS_of_wp ?_
  rw [show #[Value.pointer (some p)] ++ ((Array.replicate 7 undef).setIfInBounds 1 Value.nilIface).setIfInBounds 0 Value.nilIface = #[Value.pointer (some p), Value.nilIface, Value.nilIface, undef, undef, undef, undef, undef] from rfl]
  go_wp2
  cases c₀
  simp_all [bodyPostS, results, Tryz.results72]

theorem cell_one {w : World} {B : Nat} {v : Value} {t : TypeId} (h : w.heap[B]? = some (.cells #[v] t (0, 0))) : w.cell? ⟨B, 0, none⟩ = some v := by simp [World.cell?, h]
theorem thaw_one {w : World} {B : Nat} {v : Value} {t : TypeId} (h : w.heap[B]? = some (.cells #[v] t (0, 0))) : w.frozen? ⟨B, 0, none⟩ = false := by simp [World.frozen?, h]

set_option maxHeartbeats 4000000 in
set_option maxRecDepth 100000 in
theorem begunF_any (k B : Nat) (p : FP × Nat) (w : World) (hent : ∀ args w, (callFunc k args).run Tryz.prog w = .ok (.enter k args) w) (hp : p.2 = 0 ∨ p.1 = noFP) (hB : B < w.heap.size)
    (hc : ∀ W, Below w.heap.size w W → Calls Tryz.prog k #[.pointer (some ⟨B, 0, none⟩)] W fun e w' => GaveF p e ∧ Keep (fun j => j = B) W w') :
    Calls Tryz.prog 46 #[.func (.func k) #[.pointer (some ⟨B, 0, none⟩)] #[]] w fun e w' => e = .returned (.tuple #[.agg (fcells p.1), .int .i64 p.2]) ∧ Keep (fun j => j = B) w w' := by
  have hmf : ∀ (fn : Fn) (first cap : Array Value) (w : World), (Instr.makeFunc fn first cap).run Tryz.prog w = .ok (.func fn first cap) w := fun _ _ _ _ => rfl
  have hb0 : Below w.heap.size w ((w.alloc (.cells #[.string ⟨#[]⟩, .string ⟨#[]⟩, .string ⟨#[]⟩, .string ⟨#[]⟩] 35)).alloc (.cells #[.int .i64 0] 28)) := ((Below.refl _ _).alloc (Nat.le_refl _) _).alloc (by simp) _
  have hz0 : ((w.alloc (.cells #[.string ⟨#[]⟩, .string ⟨#[]⟩, .string ⟨#[]⟩, .string ⟨#[]⟩] 35)).alloc (.cells #[.int .i64 0] 28)).heap.size = w.heap.size + 2 := by simp
  have hcF : FAt ((w.alloc (.cells #[.string ⟨#[]⟩, .string ⟨#[]⟩, .string ⟨#[]⟩, .string ⟨#[]⟩] 35)).alloc (.cells #[.int .i64 0] 28)) w.heap.size (.string ⟨#[]⟩) (.string ⟨#[]⟩) (.string ⟨#[]⟩) (.string ⟨#[]⟩) := by
    show ((w.heap.push (.cells #[.string ⟨#[]⟩, .string ⟨#[]⟩, .string ⟨#[]⟩, .string ⟨#[]⟩] 35)).push (.cells #[.int .i64 0] 28))[w.heap.size]? = _
    rw [Array.getElem?_push_lt (by simp)]
    simp
  have hcE : ((w.alloc (.cells #[.string ⟨#[]⟩, .string ⟨#[]⟩, .string ⟨#[]⟩, .string ⟨#[]⟩] 35)).alloc (.cells #[.int .i64 0] 28)).heap[w.heap.size + 1]? = some (.cells #[.int .i64 0] 28 (0, 0)) := by
    have h := @Array.getElem?_push_size _ (w.heap.push (.cells #[.string ⟨#[]⟩, .string ⟨#[]⟩, .string ⟨#[]⟩, .string ⟨#[]⟩] 35)) (.cells #[.int .i64 0] 28)
    rw [Array.size_push] at h
    exact h
  have hc := hc _ hb0
  have hn1 : ¬ w.heap.size = B := by omega
  have hn2 : ¬ w.heap.size + 1 = B := by omega
  obtain ⟨f, n⟩ := p
  by_cases h0 : n = 0
  · subst h0
    have hc' := hc.mono (fun e w' h => And.intro (h.1.elim (fun k => k.2) (fun k => absurd rfl k.1)) h.2 : ∀ e w', _ → (e = .returned (.agg #[.string ⟨f.hd.toArray⟩, .string ⟨f.us.toArray⟩, .string ⟨f.no.toArray⟩, .string ⟨f.ba.toArray⟩]) ∧ _))
    clear hc
    go_enter_defers Tryz.func46, Tryz.ntmps46
    go_wp2_with (go_at_fn k; refine hc'.mono ?_; rintro e w1 ⟨rfl, hk⟩; have hF := hcF.keep hk hn1; have c0 := hF.c0; have c1 := hF.c1; have c2 := hF.c2; have c3 := hF.c3; have f0 := hF.fz 0; have f1 := hF.fz 1; have f2 := hF.fz 2; have f3 := hF.fz 3; have hE1 := (hk.block (w.heap.size + 1) (by omega) hn2).trans hcE; have hcl := cell_one hE1; have hfz := thaw_one hE1; clear hF hE1)
    refine leaves_cons (f := 72) (args := #[.pointer (some ⟨w.heap.size + 1, 0, none⟩)]) (by simp) (by simp [go_sem]) ?_
    refine (catchF_idle ⟨w.heap.size + 1, 0, none⟩ _).mono ?_
    rintro e u' w2 ⟨rfl, rfl, rfl⟩
    have hbl : Keep (fun j => j = B) w (((((w1.setCell ⟨w.heap.size, 0, none⟩ (.string ⟨f.hd.toArray⟩)).setCell ⟨w.heap.size, 1, none⟩ (.string ⟨f.us.toArray⟩)).setCell ⟨w.heap.size, 2, none⟩ (.string ⟨f.no.toArray⟩)).setCell ⟨w.heap.size, 3, none⟩ (.string ⟨f.ba.toArray⟩)).setCell ⟨w.heap.size + 1, 0, none⟩ (.int .i64 0)) :=
      ((((((Keep.ofBelow hb0).trans hk).setNew (p := ⟨w.heap.size, 0, none⟩) (Nat.le_refl _) _).setNew (p := ⟨w.heap.size, 1, none⟩) (Nat.le_refl _) _).setNew (p := ⟨w.heap.size, 2, none⟩) (Nat.le_refl _) _).setNew (p := ⟨w.heap.size, 3, none⟩) (Nat.le_refl _) _).setNew (p := ⟨w.heap.size + 1, 0, none⟩) (Nat.le_succ _) _
    simp [Leaves, settle, results, Tryz.results46, go_sem, fcells, c0, c1, c2, c3, hcl]
    exact hbl
  · have hj : f = noFP := hp.elim (fun h => absurd h h0) id
    subst hj
    have hc' := hc.mono (fun e w' h => And.intro (h.1.elim (fun k => absurd k.1 h0) (fun k => k.2)) h.2 : ∀ e w', _ → (e = .panicked (gaveUp n) ∧ _))
    clear hc
    go_enter_defers Tryz.func46, Tryz.ntmps46
    go_wp2_with (go_at_fn k; refine hc'.mono ?_; rintro e w1 ⟨rfl, hk⟩; have hF := hcF.keep hk hn1; have c0 := hF.c0; have c1 := hF.c1; have c2 := hF.c2; have c3 := hF.c3; have hE1 := (hk.block (w.heap.size + 1) (by omega) hn2).trans hcE; have hcl := cell_one hE1; have hfz := thaw_one hE1; clear hF hE1)
    refine leaves_cons (f := 72) (args := #[.pointer (some ⟨w.heap.size + 1, 0, none⟩)]) (by simp) (by simp [go_sem]) ?_
    refine (catchF_panicking ⟨w.heap.size + 1, 0, none⟩ 0 n [] _ hcl hfz).mono ?_
    rintro e u' w2 ⟨rfl, rfl, rfl⟩
    have hbl : Keep (fun j => j = B) w (w1.setCell ⟨w.heap.size + 1, 0, none⟩ (.int .i64 n)) :=
      ((Keep.ofBelow hb0).trans hk).setNew (p := ⟨w.heap.size + 1, 0, none⟩) (Nat.le_succ _) _
    simp [Leaves, settle, results, Tryz.results46, go_sem, fcells, noFP, c0, c1, c2, c3, hcl]
    exact hbl

set_option maxHeartbeats 4000000 in
set_option maxRecDepth 100000 in
theorem first_any (L : Tx) (w : World) (hM : Mx w) (hT : Lib.Utf8Tabs 1 2 w) (_hg1 : 1 < w.heap.size) (_hg2 : 2 < w.heap.size) :
    Calls Tryz.prog 20 #[.string ⟨L.toArray⟩] w fun e w' => e = .returned (.tuple #[.agg (fcells (firstE L).1), .int .i64 (firstE L).2]) ∧ Below w.heap.size w w' := by
  have hmf : ∀ (fn : Fn) (first cap : Array Value) (w : World), (Instr.makeFunc fn first cap).run Tryz.prog w = .ok (.func fn first cap) w := fun _ _ _ _ => rfl
  have hg3 := hM.lt
  have hb1 : Below w.heap.size w (w.alloc (.cells #[.string ⟨#[]⟩, .string ⟨#[]⟩, .string ⟨#[]⟩, .string ⟨#[]⟩] 35)) := (Below.refl _ _).alloc (Nat.le_refl _) _
  have hF1 : FAt (w.alloc (.cells #[.string ⟨#[]⟩, .string ⟨#[]⟩, .string ⟨#[]⟩, .string ⟨#[]⟩] 35)) w.heap.size (.string ⟨#[]⟩) (.string ⟨#[]⟩) (.string ⟨#[]⟩) (.string ⟨#[]⟩) := heap_alloc_new w _
  have hz1 : (w.alloc (.cells #[.string ⟨#[]⟩, .string ⟨#[]⟩, .string ⟨#[]⟩, .string ⟨#[]⟩] 35)).heap.size = w.heap.size + 1 := by simp
  generalize hW1 : w.alloc (.cells #[.string ⟨#[]⟩, .string ⟨#[]⟩, .string ⟨#[]⟩, .string ⟨#[]⟩] 35) = W1 at hb1 hF1 hz1
  have hb2 : Below w.heap.size w (W1.alloc (.cells #[.string ⟨L.toArray⟩] 70)) := hb1.alloc (by omega) _
  have hz2 : (W1.alloc (.cells #[.string ⟨L.toArray⟩] 70)).heap.size = w.heap.size + 2 := by simp [hz1]
  have hF2 : FAt (W1.alloc (.cells #[.string ⟨L.toArray⟩] 70)) w.heap.size (.string ⟨#[]⟩) (.string ⟨#[]⟩) (.string ⟨#[]⟩) (.string ⟨#[]⟩) := hF1.below ((Below.refl _ _).alloc (Nat.le_refl _) _)
  have hr2 : RAt (W1.alloc (.cells #[.string ⟨L.toArray⟩] 70)) (w.heap.size + 1) L := by
    have := heap_alloc_new W1 (.cells #[.string ⟨L.toArray⟩] 70)
    rw [hz1] at this
    exact this
  have cB := begunF_any 47 (w.heap.size + 1) (firstE L) (W1.alloc (.cells #[.string ⟨L.toArray⟩] 70)) (enters_of Tryz.func47 (by kernel_rfl) rfl) (firstE_cases L) (by omega)
    (fun W hbW => rfirst_any (w.heap.size + 1) L W (hr2.below hbW) ((hM.below hb2).below hbW) (by omega) (tabs_below (tabs_below hT hb2) hbW) (by omega) (by omega))
  generalize firstE L = p at cB ⊢
  obtain ⟨f, n⟩ := p
  unfold fcells at cB ⊢
  dsimp only at cB ⊢
  clear hM hT hr2 hF1 hb1
  have hn1 : ¬ w.heap.size = w.heap.size + 1 := by omega
  go_enter Tryz.func20, Tryz.ntmps20
  go_wp2_with (go_at_call 46; refine cB.mono ?_; rintro e w3 ⟨rfl, hk⟩; have hF := hF2.keep hk hn1; have c0 := hF.c0; have c1 := hF.c1; have c2 := hF.c2; have c3 := hF.c3; have f0 := hF.fz 0; have f1 := hF.fz 1; have f2 := hF.fz 2; have f3 := hF.fz 3)
  have hF12 := (((hF.s0 (.string ⟨f.hd.toArray⟩)).s1 (.string ⟨f.us.toArray⟩)).s2 (.string ⟨f.no.toArray⟩)).s3 (.string ⟨f.ba.toArray⟩)
  have d0 := hF12.c0
  have d1 := hF12.c1
  have d2 := hF12.c2
  have d3 := hF12.c3
  have hb3 : Below w.heap.size w w3 := ((Keep.ofBelow (S := fun _ => False) hb2).andThen hk (fun i hi h => by omega)).below (Nat.le_refl _) (fun k h => h.elim)
  refine bodyPost_ret (v := .tuple #[.agg #[.string ⟨f.hd.toArray⟩, .string ⟨f.us.toArray⟩, .string ⟨f.no.toArray⟩, .string ⟨f.ba.toArray⟩], .int .i64 n]) (by simp [results, Tryz.results20, go_sem, d0, d1, d2, d3]) rfl ⟨rfl, ?_⟩
  exact (((hb3.setCell (p := ⟨w.heap.size, 0, none⟩) (Nat.le_refl _) _).setCell (p := ⟨w.heap.size, 1, none⟩) (Nat.le_refl _) _).setCell (p := ⟨w.heap.size, 2, none⟩) (Nat.le_refl _) _).setCell (p := ⟨w.heap.size, 3, none⟩) (Nat.le_refl _) _
end Go.Proofs.YtmilcknboaefkaaGreatDoor
