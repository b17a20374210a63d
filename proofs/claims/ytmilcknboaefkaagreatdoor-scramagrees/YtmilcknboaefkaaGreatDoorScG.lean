/- scram.Final: a client's final message. -/
import Derived.Test.YtmilcknboaefkaaGreatDoorScF
import Derived.Test.YtmilcknboaefkaaGreatDoorB6D
namespace Go.Proofs.YtmilcknboaefkaaGreatDoor
open Go.RowKit Go.Shelf

theorem own_belS {w w' : World} {B e size n : Nat} {v : Value} {xs : List Value} (h : w.ownsRow B e size v n xs) (hb : Below w.heap.size w w') : w'.ownsRow B e size v n xs :=
  own_keep h (Keep.ofBelow (S := fun _ => False) hb) (fun _ _ h => h)
theorem New.weak {u w w' : World} {v : Value} {xs : List Int} (h : New w w' v xs) (hu : u.heap.size ≤ w.heap.size) : New u w' v xs := ⟨own_weak h.1 hu, h.2⟩
theorem New.keep {S : Nat → Prop} {w w' w'' : World} {v : Value} {xs : List Int} (h : New w w' v xs) (hk : Keep S w' w'') (hs : ∀ k, S k → k < w.heap.size) : New w w'' v xs :=
  ⟨own_keep h.1 hk (fun k hk' hS => by
    have h1 := hs k hS
    rcases h.1.2 with h2 | ⟨g, cap, cur, hv, hg, _⟩
    · rw [h2.1] at hk'; cases hk'
    · rw [hv] at hk'; cases hk'; dsimp only at h1; omega), h.2⟩
theorem New.set {w w' : World} {v : Value} {xs : List Int} (h : New w w' v xs) {R i : Nat} (hR : R < w.heap.size) (u : Value) : New w (w'.setCell ⟨R, i, none⟩ u) v xs :=
  h.keep (S := fun j => j = R) (Keep.setCell (S := fun j => j = R) (Keep.refl _ _) rfl _) (fun k e => by omega)
theorem New.bel {w w' w'' : World} {v : Value} {xs : List Int} (h : New w w' v xs) (hb : Below w'.heap.size w' w'') : New w w'' v xs := ⟨own_belS h.1 hb, h.2⟩

/-- A message's bytes, as signs. -/
def tx (xs : List Int) : Tx := xs.map fun n => UInt8.ofNat n.toNat
theorem str_tx (xs : List Int) : strOfNums xs = ⟨(tx xs).toArray⟩ := rfl
theorem il_tx {xs : List Int} (h : Bd xs) : il (tx xs) = xs := by
  have := nums_str h
  exact this
theorem tx_il (l : Tx) : tx (il l) = l := by
  simp only [tx, il, List.map_map]
  conv => rhs; rw [← List.map_id l]
  refine List.map_congr_left fun x _ => ?_
  simp

theorem bytes_two (B : Nat) (L : Tx) (w : World) (hA : RAt w B L) (hL : L.length ≤ 1000000) (hM : Mx w) :
    Calls Tryz.prog 62 #[.pointer (some ⟨B, 0, none⟩)] w fun e w' => ((∃ X a c, dec (il (prt L)) = some X ∧ e = .returned (.slice a X.length c) ∧ RAt w' B (rst L) ∧ New w w' (.slice a X.length c) X) ∨ (dec (il (prt L)) = none ∧ e = .panicked (gaveUp 2))) ∧ Keep (fun j => j = B) w w' := by
  have cP := part_any B L w hA hL hM
  have hle : (prt L).length ≤ L.length := by unfold prt; rw [List.length_take]; omega
  have cD := fun w => decode_any (il (prt L)) w (il_bd _) (by rw [il_len]; omega)
  rw [str_il] at cD
  obtain ⟨S, HS⟩ : ∃ S, Hid ((⟨(prt L).toArray⟩ : ByteArray) = S) := ⟨_, rfl⟩
  rw [HS.out] at cP cD
  clear hle
  cases hd : dec (il (prt L)) with
  | none =>
    rw [hd] at cD
    simp only [errB] at cD
    go_enter Tryz.func62, Tryz.ntmps62
    go_wp2_with (first
      | (go_at_call 85; refine cP.mono ?_; rintro e w1 ⟨rfl, hr1, hk1⟩)
      | (go_at_call 86; refine (cD _).mono ?_; rintro e w2 ⟨v, rfl, hn2, hb2⟩)
      | (go_at_call 78; refine (giveUp_any _ _).mono ?_; rintro e w3 ⟨rfl, rfl⟩))
    exact ⟨rfl, .inr ⟨trivial, rfl⟩, hk1.trans (Keep.ofBelow hb2)⟩
  | some X =>
    rw [hd] at cD
    simp only [errB, gotB, Option.getD_some] at cD
    go_enter Tryz.func62, Tryz.ntmps62
    go_wp2_with (first
      | (go_at_call 85; refine cP.mono ?_; rintro e w1 ⟨rfl, hr1, hk1⟩)
      | (go_at_call 86; refine (cD _).mono ?_; rintro e w2 ⟨v, rfl, hn2, hb2⟩))
    go_ret
    obtain ⟨a, c, rfl, _⟩ := hn2.rd
    exact ⟨.inl ⟨X, a, c, rfl, rfl, hr1.below hb2, hn2.weak hk1.size⟩, hk1.trans (Keep.ofBelow hb2)⟩

/-! ### the final message -/
structure LP where
  hd : Tx
  no : Tx
  pf : List Int
  ba : Tx
def lcells (f : LP) (v : Value) : Array Value := #[.string ⟨f.hd.toArray⟩, .string ⟨f.no.toArray⟩, v, .string ⟨f.ba.toArray⟩]
def noLP : LP := ⟨[], [], [], []⟩
def last5 (h n b r : Tx) : Option LP := (dec (il (prt r))).bind fun X => if X.length = 32 then (if rst r = [] then some ⟨h, n, X, b⟩ else none) else none
def last4 (L h n r : Tx) : Option LP := (sgn [44, 112, 61] r).bind fun r3 => last5 h n (L.take (L.length - r.length)) r3
def last3 (L h r : Tx) : Option LP := if nonceB 256 (prt r) = true then last4 L h (prt r) (rst r) else none
def last2 (L h r : Tx) : Option LP := (sgn [44, 114, 61] r).bind fun r2 => last3 L h r2
def last1 (L r : Tx) : Option LP := (dec (il (prt r))).bind fun X => last2 L (tx X) (rst r)
def lastO (L : Tx) : Option LP := (sgn [99, 61] L).bind fun r => last1 L r
def lastE (L : Tx) : LP × Nat := if 1024 < L.length then (noLP, 5) else match lastO L with
  | some f => (f, 0)
  | none => (noLP, 2)
def GaveL (w : World) (p : LP × Nat) (e : Ending) (w' : World) : Prop := (p.2 = 0 ∧ ∃ v, e = .returned (.agg (lcells p.1 v)) ∧ New w w' v p.1.pf) ∨ (p.2 ≠ 0 ∧ e = .panicked (gaveUp p.2))
theorem lastE_none {L : Tx} (h : L.length ≤ 1024) (h1 : lastO L = none) : lastE L = (noLP, 2) := by unfold lastE; rw [if_neg (by omega), h1]

def LAt (w : World) (R : Nat) (a b c d : Value) : Prop := w.heap[R]? = some (.cells #[a, b, c, d] 46 (0, 0))
theorem LAt.lt {w : World} {R : Nat} {a b c d : Value} (h : LAt w R a b c d) : R < w.heap.size := (Array.getElem?_eq_some_iff.1 h).1
theorem LAt.keep {S : Nat → Prop} {w w' : World} {R : Nat} {a b c d : Value} (h : LAt w R a b c d) (hk : Keep S w w') (hs : ¬ S R) : LAt w' R a b c d := (hk.block R h.lt hs).trans h
theorem LAt.below {w w' : World} {R : Nat} {a b c d : Value} (h : LAt w R a b c d) (hb : Below w.heap.size w w') : LAt w' R a b c d := (hb.block R h.lt).trans h
theorem LAt.s0 {w : World} {R : Nat} {a b c d : Value} (h : LAt w R a b c d) (v : Value) : LAt (w.setCell ⟨R, 0, none⟩ v) R v b c d := by unfold LAt at h ⊢; simp [World.setCell, Array.getElem?_modify, h]
theorem LAt.s1 {w : World} {R : Nat} {a b c d : Value} (h : LAt w R a b c d) (v : Value) : LAt (w.setCell ⟨R, 1, none⟩ v) R a v c d := by unfold LAt at h ⊢; simp [World.setCell, Array.getElem?_modify, h]
theorem LAt.s2 {w : World} {R : Nat} {a b c d : Value} (h : LAt w R a b c d) (v : Value) : LAt (w.setCell ⟨R, 2, none⟩ v) R a b v d := by unfold LAt at h ⊢; simp [World.setCell, Array.getElem?_modify, h]
theorem LAt.s3 {w : World} {R : Nat} {a b c d : Value} (h : LAt w R a b c d) (v : Value) : LAt (w.setCell ⟨R, 3, none⟩ v) R a b c v := by unfold LAt at h ⊢; simp [World.setCell, Array.getElem?_modify, h]
theorem LAt.c0 {w : World} {R : Nat} {a b c d : Value} (h : LAt w R a b c d) : w.cell? ⟨R, 0, none⟩ = some a := by unfold LAt at h; simp [World.cell?, h]
theorem LAt.c1 {w : World} {R : Nat} {a b c d : Value} (h : LAt w R a b c d) : w.cell? ⟨R, 1, none⟩ = some b := by unfold LAt at h; simp [World.cell?, h]
theorem LAt.c2 {w : World} {R : Nat} {a b c d : Value} (h : LAt w R a b c d) : w.cell? ⟨R, 2, none⟩ = some c := by unfold LAt at h; simp [World.cell?, h]
theorem LAt.c3 {w : World} {R : Nat} {a b c d : Value} (h : LAt w R a b c d) : w.cell? ⟨R, 3, none⟩ = some d := by unfold LAt at h; simp [World.cell?, h]
theorem LAt.fz {w : World} {R : Nat} {a b c d : Value} (h : LAt w R a b c d) (i : Nat) : w.frozen? ⟨R, i, none⟩ = false := by unfold LAt at h; simp [World.frozen?, h]

set_option maxHeartbeats 4000000 in
set_option maxRecDepth 100000 in
theorem rfinal_any (B : Nat) (L : Tx) (w : World) (hA : RAt w B L) (hM : Mx w) (hMB : 5 ≠ B) :
    Calls Tryz.prog 49 #[.pointer (some ⟨B, 0, none⟩)] w fun e w' => GaveL w (lastE L) e w' ∧ Keep (fun j => j = B) w w' := by
  have hBl := hA.lt
  have hw0 : Keep (fun j => j = B) w (w.alloc (.cells #[.string ⟨#[]⟩, .string ⟨#[]⟩, .slice none 0 0, .string ⟨#[]⟩] 46)) := (Keep.refl _ w).alloc _
  have hF0 : LAt (w.alloc (.cells #[.string ⟨#[]⟩, .string ⟨#[]⟩, .slice none 0 0, .string ⟨#[]⟩] 46)) w.heap.size (.string ⟨#[]⟩) (.string ⟨#[]⟩) (.slice none 0 0) (.string ⟨#[]⟩) := heap_alloc_new w _
  have hr0 : RAt (w.alloc (.cells #[.string ⟨#[]⟩, .string ⟨#[]⟩, .slice none 0 0, .string ⟨#[]⟩] 46)) B L := hA.below ((Below.refl _ w).alloc (Nat.le_refl _) _)
  have HM : Hid (∀ w', Keep (fun j => j = B) w w' → Mx w') := fun w' hk => hM.keep hk hMB
  have hRB : ¬ w.heap.size = B := by omega
  have hBR : B ≠ w.heap.size := by omega
  have hST : ∀ {u : World} {i : Nat} {v : Value}, Keep (fun j => j = B) w u → Keep (fun j => j = B) w (u.setCell ⟨w.heap.size, i, none⟩ v) := fun hk => hk.setNew (Nat.le_refl _) _
  have HST : Hid _ := @hST
  clear hST hM
  by_cases hlen : 1024 < L.length
  · have e : lastE L = (noLP, 5) := by unfold lastE; rw [if_pos hlen]
    rw [e]
    have cB := bound_no B L _ hr0 hlen
    go_enter Tryz.func49, Tryz.ntmps49
    go_wp2_with (go_at_call 73; refine cB.mono ?_; rintro e w1 ⟨rfl, rfl⟩)
    exact ⟨rfl, .inr ⟨by decide, rfl⟩, hw0⟩
  have hl : L.length ≤ 1024 := by omega
  have cB := bound_ok B L _ hr0 hl
  have HN : Hid (lastO L = none → lastE L = (noLP, 2)) := lastE_none hl
  have HS : Hid (∀ f, lastO L = some f → lastE L = (f, 0)) := fun f h => by unfold lastE; rw [if_neg hlen, h]
  have hcL := hr0.cell
  have hzL := size_tx L
  have HTk : Hid (∀ k, (⟨L.toArray⟩ : ByteArray).extract 0 k = ⟨(L.take k).toArray⟩) := fun k => take_tx L k
  obtain ⟨LS, HLS⟩ : ∃ S, Hid ((⟨L.toArray⟩ : ByteArray) = S) := ⟨_, rfl⟩
  rw [HLS.out] at hcL hzL HTk
  have hsz0 : (w.alloc (.cells #[.string ⟨#[]⟩, .string ⟨#[]⟩, .slice none 0 0, .string ⟨#[]⟩] 46)).heap.size = w.heap.size + 1 := by simp
  go_enter Tryz.func49, Tryz.ntmps49
  go_wp2_with (first
    | (go_at_call 73; refine cB.mono ?_; rintro e w1 ⟨rfl, rfl⟩)
    | (go_at_call 60; refine (sign_two B L [99, 61] _ hr0).mono ?_))
  rintro e w2 ⟨hor, hk2⟩
  have hF2 := hF0.keep hk2 hRB
  have hk2' : Keep (fun j => j = B) w w2 := hw0.trans hk2
  have hs2 : w.heap.size + 1 ≤ w2.heap.size := by have := hk2.size; omega
  clear hF0 hr0 cB hA hw0 hk2 hcL hsz0
  rcases hor with ⟨r1, hh, rfl, hr2⟩ | ⟨hh, rfl⟩
  rotate_left
  · exact ⟨rfl, .inr (by rw [HN.out (by unfold lastO; rw [hh]; rfl)]; exact ⟨by decide, rfl⟩), hk2'⟩
  have hl1 := sgn_len hh
  have HX1 : Hid (lastO L = last1 L r1) := by show _ = _; unfold lastO; rw [hh]; rfl
  clear hh
  go_wp2_with (go_at_call 62; refine (bytes_two B r1 _ hr2 (by omega) (HM.out _ hk2')).mono ?_)
  rintro e w3 ⟨hor, hk3⟩
  have hF3 := hF2.keep hk3 hRB
  have hk3' := hk2'.trans hk3
  have hs3 : w.heap.size + 1 ≤ w3.heap.size := by have := hk3.size; omega
  clear hF2 hk3 hr2 hk2'
  rcases hor with ⟨X1, a1, c1, hh, rfl, hr3, hn3⟩ | ⟨hh, rfl⟩
  rotate_left
  · exact ⟨rfl, .inr (by rw [HN.out (by rw [HX1.out]; unfold last1; rw [hh]; rfl)]; exact ⟨by decide, rfl⟩), hk3'⟩
  have HX2 : Hid (lastO L = last2 L (tx X1) (rst r1)) := by show _ = _; rw [HX1.out]; unfold last1; rw [hh]; rfl
  have hl2 := rst_len r1
  clear hh HX1
  obtain ⟨a', c', he, hR3⟩ := hn3.rd
  cases he
  have hcv := hR3.string
  rw [str_tx] at hcv
  clear hn3 hR3
  have f3 := hF3.fz 0
  have q3 := hF3.c0
  have hr4 := hr3.other (i := 0) hBR (.string ⟨(tx X1).toArray⟩)
  have hF4 := hF3.s0 (.string ⟨(tx X1).toArray⟩)
  have hk4 := HST.out (i := 0) (v := .string ⟨(tx X1).toArray⟩) hk3'
  have hs4 : w.heap.size + 1 ≤ (w3.setCell ⟨w.heap.size, 0, none⟩ (.string ⟨(tx X1).toArray⟩)).heap.size := by simpa [World.setCell] using hs3
  clear hF3 hr3 hk3' hs3
  go_wp2_with (go_at_call 60; refine (sign_two B (rst r1) [44, 114, 61] _ hr4).mono ?_)
  rintro e w5 ⟨hor, hk5⟩
  have hF5 := hF4.keep hk5 hRB
  have hk5' := hk4.trans hk5
  have hs5 : w.heap.size + 1 ≤ w5.heap.size := by have := hk5.size; omega
  clear hF4 hk5 hr4 hk4 f3 q3 hcv hs4
  rcases hor with ⟨r2, hh, rfl, hr5⟩ | ⟨hh, rfl⟩
  rotate_left
  · exact ⟨rfl, .inr (by rw [HN.out (by rw [HX2.out]; unfold last2; rw [hh]; rfl)]; exact ⟨by decide, rfl⟩), hk5'⟩
  have hl3 := sgn_len hh
  have HX3 : Hid (lastO L = last3 L (tx X1) r2) := by show _ = _; rw [HX2.out]; unfold last2; rw [hh]; rfl
  clear hh HX2
  have cN := nonce_two B r2 256 w5 hr5 (by omega) (by omega) (HM.out _ hk5')
  go_wp2_with (go_at_call 61; refine cN.mono ?_)
  rintro e w6 ⟨hor, hk6⟩
  have hF6 := hF5.keep hk6 hRB
  have hk6' := hk5'.trans hk6
  have hs6 : w.heap.size + 1 ≤ w6.heap.size := by have := hk6.size; omega
  clear hF5 hk6 hr5 hk5' cN hs5
  rcases hor with ⟨hh, rfl, hr6⟩ | ⟨hh, rfl⟩
  rotate_left
  · exact ⟨rfl, .inr (by rw [HN.out (by rw [HX3.out]; unfold last3; rw [hh]; rfl)]; exact ⟨by decide, rfl⟩), hk6'⟩
  have HX4 : Hid (lastO L = last4 L (tx X1) (prt r2) (rst r2)) := by show _ = _; rw [HX3.out]; unfold last3; rw [if_pos hh]
  have hl4 := rst_len r2
  clear hh HX3
  have f6 := hF6.fz 1
  have q6 := hF6.c1
  have hr7 := hr6.other (i := 1) hBR (.string ⟨(prt r2).toArray⟩)
  have hF7 := hF6.s1 (.string ⟨(prt r2).toArray⟩)
  have hk7 := HST.out (i := 1) (v := .string ⟨(prt r2).toArray⟩) hk6'
  have hs7 : w.heap.size + 1 ≤ (w6.setCell ⟨w.heap.size, 1, none⟩ (.string ⟨(prt r2).toArray⟩)).heap.size := by simpa [World.setCell] using hs6
  have hc7 := hr7.cell
  have hz7 := size_tx (rst r2)
  obtain ⟨T7, HT7⟩ : ∃ T, Hid ((⟨(rst r2).toArray⟩ : ByteArray) = T) := ⟨_, rfl⟩
  rw [HT7.out] at hc7 hz7
  obtain ⟨m7, Hm7⟩ : ∃ m, Hid ((rst r2).length = m) := ⟨_, rfl⟩
  obtain ⟨m0, Hm0⟩ : ∃ m, Hid (L.length = m) := ⟨_, rfl⟩
  rw [Hm7.out] at hz7 hl4
  rw [Hm0.out] at hzL hl hl1
  have hdif : (m0 : Int) - (m7 : Int) = ((m0 - m7 : Nat) : Int) := by omega
  have hd1 : (((m0 - m7 : Nat) : Int)) ≤ (m0 : Int) := by omega
  have hEx := HTk.out (m0 - m7)
  have hBA : Hid (L.take (L.length - (rst r2).length) = L.take (m0 - m7)) := by show _ = _; rw [Hm7.out, Hm0.out]
  obtain ⟨b, hb⟩ : ∃ b, L.take (m0 - m7) = b := ⟨_, rfl⟩
  rw [hb] at hEx hBA
  have hbl : b.length ≤ m0 := by rw [← hb, List.length_take]; omega
  clear hb hF6 hr6 hk6' hs6
  go_wp2_with (first
    | (go_at_call 75; refine (clone_any _ _ (by rw [size_tx]; omega)).mono ?_; rintro e w8 ⟨rfl, hb8⟩; have f8 := (hF7.below hb8).fz 3; have q8 := (hF7.below hb8).c3; have hr8 := (hr7.below hb8).other (i := 3) hBR (.string ⟨b.toArray⟩))
    | (go_at_call 60; refine (sign_two B (rst r2) [44, 112, 61] _ hr8).mono ?_))
  rintro e w9 ⟨hor, hk9⟩
  have hF9 := ((hF7.below hb8).s3 (.string ⟨b.toArray⟩)).keep hk9 hRB
  have hk9' := (HST.out (i := 3) (v := .string ⟨b.toArray⟩) (hk7.trans (Keep.ofBelow hb8))).trans hk9
  have hs9 : w.heap.size + 1 ≤ w9.heap.size := by
    have h1 := hk9.size
    have h2 := hb8.size
    simp only [World.setCell, Array.size_modify] at h1 h2 hs7
    omega
  clear hF7 hk9 hr8 hr7 hk7 f8 q8 f6 q6 hc7 hEx hdif hd1 hb8 hs7
  rcases hor with ⟨r3, hh, rfl, hr9⟩ | ⟨hh, rfl⟩
  rotate_left
  · exact ⟨rfl, .inr (by rw [HN.out (by rw [HX4.out]; unfold last4; rw [hh]; rfl)]; exact ⟨by decide, rfl⟩), hk9'⟩
  have hl5 := sgn_len hh
  rw [Hm7.out] at hl5
  have HX5 : Hid (lastO L = last5 (tx X1) (prt r2) b r3) := by show _ = _; rw [HX4.out]; unfold last4; rw [hh, ← hBA.out]; rfl
  clear hh HX4
  go_wp2_with (go_at_call 62; refine (bytes_two B r3 _ hr9 (by omega) (HM.out _ hk9')).mono ?_)
  rintro e w10 ⟨hor, hk10⟩
  have hF10 := hF9.keep hk10 hRB
  have hk10' := hk9'.trans hk10
  clear hF9 hk10 hr9
  rcases hor with ⟨X2, a2, c2, hh, rfl, hr10, hn10⟩ | ⟨hh, rfl⟩
  rotate_left
  · exact ⟨rfl, .inr (by rw [HN.out (by rw [HX5.out]; unfold last5; rw [hh]; rfl)]; exact ⟨by decide, rfl⟩), hk10'⟩
  have HX6 : Hid (lastO L = if X2.length = 32 then (if rst r3 = [] then some ⟨tx X1, prt r2, X2, b⟩ else none) else none) := by show _ = _; rw [HX5.out]; unfold last5; rw [hh]; rfl
  clear hh HX5
  have hR : w.heap.size < w9.heap.size := by omega
  by_cases h32 : X2.length = 32
  · rw [if_pos h32] at HX6
    rw [h32] at hn10
    have f10 := hF10.fz 2
    have q10 := hF10.c2
    have hr11 := hr10.other (i := 2) hBR (.slice a2 32 c2)
    have hF11 := hF10.s2 (.slice a2 32 c2)
    have hk11 := HST.out (i := 2) (v := .slice a2 32 c2) hk10'
    have hn11 := hn10.set (i := 2) hR (.slice a2 32 c2)
    have c0 := hF11.c0
    have c1' := hF11.c1
    have c2' := hF11.c2
    have c3 := hF11.c3
    have g0 := hF11.fz 0
    have g1 := hF11.fz 1
    have g2 := hF11.fz 2
    have g3 := hF11.fz 3
    rw [h32]
    clear hr10 hF10 hk10' hn10
    go_wp2_with (go_at_call 64; refine (end_two B (rst r3) _ hr11).mono ?_)
    rintro e w12 ⟨⟨hh, rfl⟩ | ⟨hh, rfl⟩, rfl⟩
    rotate_left
    · exact ⟨rfl, .inr (by rw [HN.out (by rw [HX6.out, if_neg hh])]; exact ⟨by decide, rfl⟩), hk11⟩
    have hE := HS.out _ (by rw [HX6.out, if_pos hh])
    have HE : Hid _ := hE
    clear hE hh HX6 hr11 f10 q10 HS HN
    go_wp2
    have hF12 := (((hF11.s0 (.string ⟨(tx X1).toArray⟩)).s1 (.string ⟨(prt r2).toArray⟩)).s2 (.slice a2 32 c2)).s3 (.string ⟨b.toArray⟩)
    have d0 := hF12.c0
    have d1 := hF12.c1
    have d2 := hF12.c2
    have d3 := hF12.c3
    refine bodyPost_ret (v := .agg (lcells ⟨tx X1, prt r2, X2, b⟩ (.slice a2 32 c2))) (by simp [results, Tryz.results49, go_sem, d0, d1, d2, d3, lcells]) rfl ⟨.inl (by rw [HE.out]; exact ⟨rfl, _, rfl, ((((hn11.set (i := 0) hR _).set (i := 1) hR _).set (i := 2) hR _).set (i := 3) hR _).weak (by omega)⟩), HST.out (HST.out (HST.out (HST.out hk11)))⟩
  · rw [if_neg h32] at HX6
    have hne : ((X2.length : Int) == 32) = false := by simp; omega
    have f10 := hF10.fz 2
    have q10 := hF10.c2
    have hF11 := hF10.s2 (.slice a2 X2.length c2)
    have hk11 := HST.out (i := 2) (v := .slice a2 X2.length c2) hk10'
    have c2' := hF11.c2
    obtain ⟨n2, Hn2⟩ : ∃ n, Hid (X2.length = n) := ⟨_, rfl⟩
    rw [Hn2.out] at hne c2' hk11 ⊢
    clear hr10 hF10 hk10' hn10 hF11 h32
    go_wp2_with (go_at_call 78; refine (giveUp_any _ _).mono ?_; rintro e w3 ⟨rfl, rfl⟩)
    exact ⟨rfl, .inr (by rw [HN.out HX6.out]; exact ⟨by decide, rfl⟩), hk11⟩

theorem lastE_cases (L : Tx) : (lastE L).2 = 0 ∨ (lastE L).1 = noLP := by
  unfold lastE
  split
  · exact .inr rfl
  · split
    · exact .inl rfl
    · exact .inr rfl

theorem catchL_panicking (p : Addr) (x n : Int) (older : List PanicEntry) (w : World) (hc : w.cell? p = some (.int .i64 x)) (hz : w.frozen? p = false) :
    CallsD Tryz.prog 77 #[.pointer (some p)] (.panicking ({ v := .iface 103 (.agg #[.int .i64 n]), recovered := false } :: older)) w fun e u' w' =>
      e = .returned (.tuple #[]) ∧ u' = .panicking ({ v := .iface 103 (.agg #[.int .i64 n]), recovered := true } :: older) ∧ w' = w.setCell p (.int .i64 n) := by
  refine callsD_of_wpS Tryz.func77 rfl fun c₀ cs hu => ?_
  apply wpS_seq
  apply wpS_region
  simp [wpOpsS, go_sem, recoverD, hu, Tryz.ntmps77, Exit.thenS]
  refine wpS_of_wp ?_
  rw [show #[Value.pointer (some p)] ++ ((Array.replicate 7 undef).setIfInBounds 1 (Value.iface 103 (Value.agg #[Value.int IntKind.i64 n]))).setIfInBounds 0 (Value.iface 103 (Value.agg #[Value.int IntKind.i64 n])) = #[Value.pointer (some p), Value.iface 103 (Value.agg #[Value.int IntKind.i64 n]), Value.iface 103 (Value.agg #[Value.int IntKind.i64 n]), undef, undef, undef, undef, undef] from rfl]
  have hta : (Instr.typeAssert (Value.iface 103 (Value.agg #[Value.int IntKind.i64 n])) 20 103 false).run Tryz.prog w = .ok (Value.agg #[Value.int IntKind.i64 n]) w := by
    simp [Instr.typeAssert, go_sem]
  have hfd : (Instr.field 103 (Value.agg #[Value.int IntKind.i64 n]) 0).run Tryz.prog w = .ok (Value.int IntKind.i64 n) w := by
    simp [Instr.field, go_sem, asAgg]
  go_wp2
  simp [bodyPostS, results, Tryz.results77]
theorem catchL_idle (p : Addr) (w : World) :
    CallsD Tryz.prog 77 #[.pointer (some p)] .returning w fun e u' w' => e = .returned (.tuple #[]) ∧ u' = .returning ∧ w' = w := by
  refine callsD_of_wpS Tryz.func77 rfl fun c₀ cs hu => ?_
  apply wpS_seq
  apply wpS_region
  simp [wpOpsS, go_sem, recoverD, hu, Tryz.ntmps77, Exit.thenS]
  refine wpS_of_wp ?_
  rw [show #[Value.pointer (some p)] ++ ((Array.replicate 7 undef).setIfInBounds 1 Value.nilIface).setIfInBounds 0 Value.nilIface = #[Value.pointer (some p), Value.nilIface, Value.nilIface, undef, undef, undef, undef, undef] from rfl]
  go_wp2
  cases c₀
  simp_all [bodyPostS, results, Tryz.results77]

/-- What begun and Final hand back. -/
def ToldL (w : World) (p : LP × Nat) (e : Ending) (w' : World) : Prop := ∃ v, e = .returned (.tuple #[.agg (lcells p.1 v), .int .i64 p.2]) ∧ New w w' v p.1.pf

set_option maxHeartbeats 4000000 in
set_option maxRecDepth 100000 in
theorem begunL_any (k B : Nat) (p : LP × Nat) (w : World) (hent : ∀ args w, (callFunc k args).run Tryz.prog w = .ok (.enter k args) w) (hp : p.2 = 0 ∨ p.1 = noLP) (hB : B < w.heap.size)
    (hc : ∀ W, Below w.heap.size w W → Calls Tryz.prog k #[.pointer (some ⟨B, 0, none⟩)] W fun e w' => GaveL W p e w' ∧ Keep (fun j => j = B) W w') :
    Calls Tryz.prog 48 #[.func (.func k) #[.pointer (some ⟨B, 0, none⟩)] #[]] w fun e w' => ToldL w p e w' ∧ Keep (fun j => j = B) w w' := by
  have hmf : ∀ (fn : Fn) (first cap : Array Value) (w : World), (Instr.makeFunc fn first cap).run Tryz.prog w = .ok (.func fn first cap) w := fun _ _ _ _ => rfl
  have hb0 : Below w.heap.size w ((w.alloc (.cells #[.string ⟨#[]⟩, .string ⟨#[]⟩, .slice none 0 0, .string ⟨#[]⟩] 46)).alloc (.cells #[.int .i64 0] 28)) := ((Below.refl _ _).alloc (Nat.le_refl _) _).alloc (by simp) _
  have hz0 : ((w.alloc (.cells #[.string ⟨#[]⟩, .string ⟨#[]⟩, .slice none 0 0, .string ⟨#[]⟩] 46)).alloc (.cells #[.int .i64 0] 28)).heap.size = w.heap.size + 2 := by simp
  have hcF : LAt ((w.alloc (.cells #[.string ⟨#[]⟩, .string ⟨#[]⟩, .slice none 0 0, .string ⟨#[]⟩] 46)).alloc (.cells #[.int .i64 0] 28)) w.heap.size (.string ⟨#[]⟩) (.string ⟨#[]⟩) (.slice none 0 0) (.string ⟨#[]⟩) := by
    show ((w.heap.push (.cells #[.string ⟨#[]⟩, .string ⟨#[]⟩, .slice none 0 0, .string ⟨#[]⟩] 46)).push (.cells #[.int .i64 0] 28))[w.heap.size]? = _
    rw [Array.getElem?_push_lt (by simp)]
    simp
  have hcE : ((w.alloc (.cells #[.string ⟨#[]⟩, .string ⟨#[]⟩, .slice none 0 0, .string ⟨#[]⟩] 46)).alloc (.cells #[.int .i64 0] 28)).heap[w.heap.size + 1]? = some (.cells #[.int .i64 0] 28 (0, 0)) := by
    have h := @Array.getElem?_push_size _ (w.heap.push (.cells #[.string ⟨#[]⟩, .string ⟨#[]⟩, .slice none 0 0, .string ⟨#[]⟩] 46)) (.cells #[.int .i64 0] 28)
    rw [Array.size_push] at h
    exact h
  have hc := hc _ hb0
  have hn1 : ¬ w.heap.size = B := by omega
  have hn2 : ¬ w.heap.size + 1 = B := by omega
  obtain ⟨f, n⟩ := p
  by_cases h0 : n = 0
  · subst h0
    have hc' := hc.mono (fun e w' h => And.intro (h.1.elim (fun k => k.2) (fun k => absurd rfl k.1)) h.2 : ∀ e w', _ → ((∃ v, e = .returned (.agg (lcells f v)) ∧ New ((w.alloc (.cells #[.string ⟨#[]⟩, .string ⟨#[]⟩, .slice none 0 0, .string ⟨#[]⟩] 46)).alloc (.cells #[.int .i64 0] 28)) w' v f.pf) ∧ _))
    clear hc
    unfold lcells at hc'
    go_enter_defers Tryz.func48, Tryz.ntmps48
    go_wp2_with (go_at_fn k; refine hc'.mono ?_; rintro e w1 ⟨⟨v, rfl, hnew⟩, hk⟩; have hF := hcF.keep hk hn1; have c0 := hF.c0; have c1 := hF.c1; have c2 := hF.c2; have c3 := hF.c3; have f0 := hF.fz 0; have f1 := hF.fz 1; have f2 := hF.fz 2; have f3 := hF.fz 3; have hE1 := (hk.block (w.heap.size + 1) (by omega) hn2).trans hcE; have hcl := cell_one hE1; have hfz := thaw_one hE1; obtain ⟨va, vc, rfl, _⟩ := hnew.rd; clear hE1)
    refine leaves_cons (f := 77) (args := #[.pointer (some ⟨w.heap.size + 1, 0, none⟩)]) (by simp) (by simp [go_sem]) ?_
    refine (catchL_idle ⟨w.heap.size + 1, 0, none⟩ _).mono ?_
    rintro e u' w2 ⟨rfl, rfl, rfl⟩
    have hkk : Keep (fun j => j = B) w (((((w1.setCell ⟨w.heap.size, 0, none⟩ (.string ⟨f.hd.toArray⟩)).setCell ⟨w.heap.size, 1, none⟩ (.string ⟨f.no.toArray⟩)).setCell ⟨w.heap.size, 2, none⟩ (.slice va f.pf.length vc)).setCell ⟨w.heap.size, 3, none⟩ (.string ⟨f.ba.toArray⟩)).setCell ⟨w.heap.size + 1, 0, none⟩ (.int .i64 0)) :=
      ((((((Keep.ofBelow hb0).trans hk).setNew (p := ⟨w.heap.size, 0, none⟩) (Nat.le_refl _) _).setNew (p := ⟨w.heap.size, 1, none⟩) (Nat.le_refl _) _).setNew (p := ⟨w.heap.size, 2, none⟩) (Nat.le_refl _) _).setNew (p := ⟨w.heap.size, 3, none⟩) (Nat.le_refl _) _).setNew (p := ⟨w.heap.size + 1, 0, none⟩) (Nat.le_succ _) _
    have hnn : New w (((((w1.setCell ⟨w.heap.size, 0, none⟩ (.string ⟨f.hd.toArray⟩)).setCell ⟨w.heap.size, 1, none⟩ (.string ⟨f.no.toArray⟩)).setCell ⟨w.heap.size, 2, none⟩ (.slice va f.pf.length vc)).setCell ⟨w.heap.size, 3, none⟩ (.string ⟨f.ba.toArray⟩)).setCell ⟨w.heap.size + 1, 0, none⟩ (.int .i64 0)) (.slice va f.pf.length vc) f.pf :=
      (((((hnew.set (by omega) _).set (by omega) _).set (by omega) _).set (by omega) _).set (by omega) _).weak (by omega)
    simp [Leaves, settle, results, Tryz.results48, go_sem, c0, c1, c2, c3, hcl]
    exact ⟨⟨_, rfl, hnn⟩, hkk⟩
  · have hj : f = noLP := hp.elim (fun h => absurd h h0) id
    subst hj
    have hc' := hc.mono (fun e w' h => And.intro (h.1.elim (fun k => absurd k.1 h0) (fun k => k.2)) h.2 : ∀ e w', _ → (e = .panicked (gaveUp n) ∧ _))
    clear hc
    go_enter_defers Tryz.func48, Tryz.ntmps48
    go_wp2_with (go_at_fn k; refine hc'.mono ?_; rintro e w1 ⟨rfl, hk⟩; have hF := hcF.keep hk hn1; have c0 := hF.c0; have c1 := hF.c1; have c2 := hF.c2; have c3 := hF.c3; have hE1 := (hk.block (w.heap.size + 1) (by omega) hn2).trans hcE; have hcl := cell_one hE1; have hfz := thaw_one hE1; clear hF hE1)
    refine leaves_cons (f := 77) (args := #[.pointer (some ⟨w.heap.size + 1, 0, none⟩)]) (by simp) (by simp [go_sem]) ?_
    refine (catchL_panicking ⟨w.heap.size + 1, 0, none⟩ 0 n [] _ hcl hfz).mono ?_
    rintro e u' w2 ⟨rfl, rfl, rfl⟩
    have hkk : Keep (fun j => j = B) w (w1.setCell ⟨w.heap.size + 1, 0, none⟩ (.int .i64 n)) :=
      ((Keep.ofBelow hb0).trans hk).setNew (p := ⟨w.heap.size + 1, 0, none⟩) (Nat.le_succ _) _
    simp [Leaves, settle, results, Tryz.results48, go_sem, noLP, c0, c1, c2, c3, hcl]
    exact ⟨⟨_, rfl, ⟨rfl, .inl ⟨rfl, rfl⟩⟩, Bd.nil⟩, hkk⟩

set_option maxHeartbeats 4000000 in
set_option maxRecDepth 100000 in
theorem final_any (L : Tx) (w : World) (hM : Mx w) :
    Calls Tryz.prog 21 #[.string ⟨L.toArray⟩] w fun e w' => ToldL w (lastE L) e w' ∧ Below w.heap.size w w' := by
  have hmf : ∀ (fn : Fn) (first cap : Array Value) (w : World), (Instr.makeFunc fn first cap).run Tryz.prog w = .ok (.func fn first cap) w := fun _ _ _ _ => rfl
  have hg3 := hM.lt
  have hb1 : Below w.heap.size w (w.alloc (.cells #[.string ⟨#[]⟩, .string ⟨#[]⟩, .slice none 0 0, .string ⟨#[]⟩] 46)) := (Below.refl _ _).alloc (Nat.le_refl _) _
  have hF1 : LAt (w.alloc (.cells #[.string ⟨#[]⟩, .string ⟨#[]⟩, .slice none 0 0, .string ⟨#[]⟩] 46)) w.heap.size (.string ⟨#[]⟩) (.string ⟨#[]⟩) (.slice none 0 0) (.string ⟨#[]⟩) := heap_alloc_new w _
  have hz1 : (w.alloc (.cells #[.string ⟨#[]⟩, .string ⟨#[]⟩, .slice none 0 0, .string ⟨#[]⟩] 46)).heap.size = w.heap.size + 1 := by simp
  generalize hW1 : w.alloc (.cells #[.string ⟨#[]⟩, .string ⟨#[]⟩, .slice none 0 0, .string ⟨#[]⟩] 46) = W1 at hb1 hF1 hz1
  have hb2 : Below w.heap.size w (W1.alloc (.cells #[.string ⟨L.toArray⟩] 70)) := hb1.alloc (by omega) _
  have hz2 : (W1.alloc (.cells #[.string ⟨L.toArray⟩] 70)).heap.size = w.heap.size + 2 := by simp [hz1]
  have hF2 : LAt (W1.alloc (.cells #[.string ⟨L.toArray⟩] 70)) w.heap.size (.string ⟨#[]⟩) (.string ⟨#[]⟩) (.slice none 0 0) (.string ⟨#[]⟩) := hF1.below ((Below.refl _ _).alloc (Nat.le_refl _) _)
  have hr2 : RAt (W1.alloc (.cells #[.string ⟨L.toArray⟩] 70)) (w.heap.size + 1) L := by
    have := heap_alloc_new W1 (.cells #[.string ⟨L.toArray⟩] 70)
    rw [hz1] at this
    exact this
  have cB := begunL_any 49 (w.heap.size + 1) (lastE L) (W1.alloc (.cells #[.string ⟨L.toArray⟩] 70)) (enters_of Tryz.func49 (by kernel_rfl) rfl) (lastE_cases L) (by omega)
    (fun W hbW => rfinal_any (w.heap.size + 1) L W (hr2.below hbW) ((hM.below hb2).below hbW) (by omega))
  generalize lastE L = p at cB ⊢
  obtain ⟨f, n⟩ := p
  unfold ToldL lcells at cB
  dsimp only at cB
  clear hM hr2 hF1 hb1
  have hn1 : ¬ w.heap.size = w.heap.size + 1 := by omega
  go_enter Tryz.func21, Tryz.ntmps21
  go_wp2_with (go_at_call 48; refine cB.mono ?_; rintro e w3 ⟨⟨v, rfl, hnew⟩, hk⟩; have hF := hF2.keep hk hn1; have c0 := hF.c0; have c1 := hF.c1; have c2 := hF.c2; have c3 := hF.c3; have f0 := hF.fz 0; have f1 := hF.fz 1; have f2 := hF.fz 2; have f3 := hF.fz 3; obtain ⟨va, vc, rfl, _⟩ := hnew.rd)
  have hF12 := (((hF.s0 (.string ⟨f.hd.toArray⟩)).s1 (.string ⟨f.no.toArray⟩)).s2 (.slice va f.pf.length vc)).s3 (.string ⟨f.ba.toArray⟩)
  have d0 := hF12.c0
  have d1 := hF12.c1
  have d2 := hF12.c2
  have d3 := hF12.c3
  have hb3 : Below w.heap.size w w3 := ((Keep.ofBelow (S := fun _ => False) hb2).andThen hk (fun i hi h => by omega)).below (Nat.le_refl _) (fun k h => h.elim)
  have hnn := ((((hnew.set (R := w.heap.size) (i := 0) (by omega) (.string ⟨f.hd.toArray⟩)).set (R := w.heap.size) (i := 1) (by omega) (.string ⟨f.no.toArray⟩)).set (R := w.heap.size) (i := 2) (by omega) (.slice va f.pf.length vc)).set (R := w.heap.size) (i := 3) (by omega) (.string ⟨f.ba.toArray⟩)).weak (u := w) (by omega)
  refine bodyPost_ret (v := .tuple #[.agg #[.string ⟨f.hd.toArray⟩, .string ⟨f.no.toArray⟩, .slice va f.pf.length vc, .string ⟨f.ba.toArray⟩], .int .i64 n]) (by simp [results, Tryz.results21, go_sem, d0, d1, d2, d3]) rfl ⟨⟨_, rfl, hnn⟩, ?_⟩
  exact (((hb3.setCell (p := ⟨w.heap.size, 0, none⟩) (Nat.le_refl _) _).setCell (p := ⟨w.heap.size, 1, none⟩) (Nat.le_refl _) _).setCell (p := ⟨w.heap.size, 2, none⟩) (Nat.le_refl _) _).setCell (p := ⟨w.heap.size, 3, none⟩) (Nat.le_refl _) _
end Go.Proofs.YtmilcknboaefkaaGreatDoor
