/- creds' reader: what it asks; a number; bytes. -/
import Derived.Test.YtiidjdedeenijaaDoorCwA
import Derived.Test.YtiidjdedeenijaaDoorUint
import Derived.Test.YtiidjdedeenijaaDoorReadT
import Derived.Laws.CopyRow
namespace Go.Proofs.YtiidjdedeenijaaDoor
open Go.RowKit

/-- A reader at block r that has xs left. -/
structure RAt (w : World) (r : Nat) (a : Option Addr) (n c : Nat) (xs : List Int) : Prop where
  blk : w.heap[r]? = some (.cells #[.slice a n c] 72 (0, 0))
  rd : Rd w a n c xs
theorem RAt.lt {w : World} {r : Nat} {a : Option Addr} {n c : Nat} {xs : List Int} (h : RAt w r a n c xs) : r < w.heap.size := (Array.getElem?_eq_some_iff.1 h.blk).1
theorem RAt.cell {w : World} {r : Nat} {a : Option Addr} {n c : Nat} {xs : List Int} (h : RAt w r a n c xs) : w.cell? ⟨r, 0, none⟩ = some (.slice a n c) := cell_of_row w r 0 _ _ (0, 0) h.blk
theorem RAt.fz {w : World} {r : Nat} {a : Option Addr} {n c : Nat} {xs : List Int} (h : RAt w r a n c xs) : w.frozen? ⟨r, 0, none⟩ = false := frozen_of_row w r 0 _ _ h.blk
theorem RAt.below {w w' : World} {r : Nat} {a : Option Addr} {n c : Nat} {xs : List Int} (h : RAt w r a n c xs) (hb : Below w.heap.size w w') : RAt w' r a n c xs := ⟨(hb.block r h.lt).trans h.blk, h.rd.carry (Nat.le_refl _) hb⟩
/-- What is left, whatever slice holds it. -/
def Left (w : World) (r : Nat) (xs : List Int) : Prop := ∃ a n c, RAt w r a n c xs
theorem RAt.set {w : World} {r : Nat} {a b : Option Addr} {n c m d : Nat} {xs ys : List Int} (h : RAt w r a n c xs) (hR : Rd w b m d ys) (hne : ∀ ad, b = some ad → ad.block ≠ r) : RAt (w.setCell ⟨r, 0, none⟩ (.slice b m d)) r b m d ys :=
  ⟨heap_setCell_same w r 0 _ _ _ h.blk, hR.keep ((Keep.refl (fun k => k = r) w).setCell (p := ⟨r, 0, none⟩) rfl _) (fun ad had e => hne ad had e)⟩

/-- The reader gives up. -/
def gaveC : List PanicEntry := [{ v := .iface 69 (.agg #[]), recovered := false }]
theorem ask_yes (w : World) : Calls Tryd.prog 56 #[.bool true] w fun e w' => e = .returned (.tuple #[]) ∧ w' = w := by
  go_enter Tryd.func56, Tryd.ntmps56
  go_wp2
  go_end0
  exact ⟨rfl, rfl⟩
theorem ask_no (w : World) : Calls Tryd.prog 56 #[.bool false] w fun e w' => e = .panicked gaveC ∧ w' = w := by
  go_enter Tryd.func56, Tryd.ntmps56
  go_wp2
  exact ⟨rfl, rfl, rfl⟩

set_option maxRecDepth 100000 in
set_option maxHeartbeats 1600000 in
theorem bytes_no (r : Nat) (a : Option Addr) (n c : Nat) (xs : List Int) (k : Nat) (w : World) (h : RAt w r a n c xs) (hk : n < k) :
    Calls Tryd.prog 78 #[.pointer (some ⟨r, 0, none⟩), .int .i64 k] w fun e w' => e = .panicked gaveC ∧ w' = w := by
  have q := h.cell
  have hz : ¬ (k : Int) ≤ (n : Int) := by omega
  go_enter Tryd.func78, Tryd.ntmps78
  go_wp2_with (go_at_call 56; refine (ask_no _).mono ?_; rintro e w1 ⟨rfl, rfl⟩)
  exact ⟨rfl, rfl, rfl⟩

set_option maxRecDepth 100000 in
set_option maxHeartbeats 1600000 in
theorem bytes_ok (r : Nat) (a : Option Addr) (n c : Nat) (xs : List Int) (k : Nat) (w : World) (hA : RAt w r a n c xs) (hk : k ≤ n) (hn : n ≤ 1000000) (hne : ∀ ad, a = some ad → ad.block ≠ r) :
    Calls Tryd.prog 78 #[.pointer (some ⟨r, 0, none⟩), .int .i64 k] w fun e w' => ∃ b d, e = .returned (.slice a k c) ∧ RAt w' r b (n - k) d (xs.drop k) ∧ (∀ ad, b = some ad → ∃ a0, a = some a0 ∧ ad.block = a0.block) ∧ Rd w' a k c (xs.take k) ∧ Keep (fun j => j = r) w w' := by
  have q := hA.cell
  have z := hA.fz
  have hz : (k : Int) ≤ (n : Int) := by omega
  have hc := hA.rd.cap
  have hcm : c ≤ 9223372036854775807 := hA.rd.most
  go_enter Tryd.func78, Tryd.ntmps78
  go_wp2_with (go_at_call 56; refine (ask_yes _).mono ?_; rintro e w1 ⟨rfl, rfl⟩)
  · subst h
    obtain rfl : n = c := by omega
    go_ret
    have hd : xs.drop n = [] := List.drop_eq_nil_of_le (by rw [hA.rd.len]; exact Nat.le_refl _)
    have hR0 : Rd w1 a (n - n) 0 (xs.drop n) := by
      rw [hd, Nat.sub_self]
      exact ⟨rfl, Nat.le_refl _, by unfold maxLen; omega, fun _ => rfl, Bd.nil, fun _ _ j hj => by omega⟩
    refine ⟨rfl, a, ⟨0, hA.set hR0 hne⟩, fun ad had => ⟨ad, had, rfl⟩, ?_, (Keep.refl (fun k => k = r) w1).setCell (p := ⟨r, 0, none⟩) rfl _⟩
    exact (hA.rd.takeK (Nat.le_refl _)).keep ((Keep.refl (fun k => k = r) w1).setCell (p := ⟨r, 0, none⟩) rfl _) (fun ad had e => hne ad had e)
  · have hR0 : Rd w1 (a.map (fun x => x.add k)) (n - k) (c - k) (xs.drop k) := by
      cases a with
      | none => have := hA.rd.nil rfl; omega
      | some ad =>
        by_cases hn0 : n - k = 0
        · have hd : xs.drop k = [] := List.drop_eq_nil_of_le (by rw [hA.rd.len]; omega)
          rw [hd, hn0]
          exact ⟨rfl, Nat.zero_le _, by unfold maxLen; omega, (fun e => by cases e), Bd.nil, fun _ _ j hj => by omega⟩
        · obtain ⟨b, off, spot⟩ := ad
          have h0 := hA.rd.cells _ rfl 0 (by omega)
          have hspot : spot = none := by simpa [Addr.add] using World.cell?_spot h0
          subst hspot
          have := hA.rd.drop hk
          rw [← add_flat] at this
          exact this
    have hne' : ∀ ad, a.map (fun x => x.add k) = some ad → ad.block ≠ r := fun ad had => by
      cases a with
      | none => cases had
      | some x =>
        cases had
        have e1 : (x.add k).block = x.block := by unfold Addr.add; split <;> rfl
        rw [e1]
        exact hne x rfl
    have hloc : ∀ ad, a.map (fun x => x.add k) = some ad → ∃ a0, a = some a0 ∧ ad.block = a0.block := fun ad had => by
      cases a with
      | none => cases had
      | some x =>
        cases had
        exact ⟨x, rfl, by unfold Addr.add; split <;> rfl⟩
    go_ret
    refine ⟨rfl, _, ⟨_, hA.set hR0 hne'⟩, hloc, ?_, (Keep.refl (fun k => k = r) w1).setCell (p := ⟨r, 0, none⟩) rfl _⟩
    exact (hA.rd.takeK hk).keep ((Keep.refl (fun k => k = r) w1).setCell (p := ⟨r, 0, none⟩) rfl _) (fun ad had e => hne ad had e)

/-- A number from 1 to most, taken. -/
def numOk (xs : List Int) (most : Nat) : Bool := decide ((scan xs 0 0).2.2 = 0 ∧ 1 ≤ (scan xs 0 0).1 ∧ (scan xs 0 0).1 ≤ most)

set_option maxRecDepth 100000 in
set_option maxHeartbeats 1600000 in
theorem number_ok (r : Nat) (a : Option Addr) (n c : Nat) (xs : List Int) (most : Nat) (w : World) (hA : RAt w r a n c xs) (hn : n ≤ 1000000) (hm : most ≤ 1000000) (h : numOk xs most = true) :
    Calls Tryd.prog 59 #[.pointer (some ⟨r, 0, none⟩), .int .i64 most] w fun e w' => e = .returned (.int .i64 ((scan xs 0 0).1 : Nat)) ∧ (∃ b m d, RAt w' r b m d (xs.drop (scan xs 0 0).2.1) ∧ m ≤ n ∧ ∀ ad, b = some ad → w.heap.size ≤ ad.block) ∧ Keep (fun j => j = r) w w' := by
  have q := hA.cell
  have hU := uint_any a n c xs w hA.rd (by omega)
  unfold numOk at h
  obtain ⟨h1, h2, h3⟩ := of_decide_eq_true h
  obtain ⟨v, k, e, hs⟩ : ∃ v k e, scan xs 0 0 = (v, k, e) := ⟨_, _, _, rfl⟩
  rw [hs] at hU h1 h2 h3 ⊢
  dsimp only at hU h1 h2 h3 ⊢
  subst h1
  go_enter Tryd.func59, Tryd.ntmps59
  go_upto_region 2 with (go_at_call 79; refine hU.mono ?_; rintro e w1 (⟨hx, _⟩ | ⟨_, v1, rfl, ho1, hb1⟩) <;> first | exact absurd rfl hx | skip)
  obtain ⟨b, d, rfl, hR1⟩ := Rd.ofOwn ho1 (hA.rd.bytes.drop k)
  have A1 := hA.below hb1
  have hne : ∀ ad, b = some ad → ad.block ≠ r := fun ad had e => by
    have := (ho1.lt ad.block (by rw [had]; rfl)).1
    have := hA.lt
    omega
  have hz1 : (1 : Int) ≤ (v : Int) := by omega
  have hz2 : (v : Int) ≤ (most : Int) := by omega
  have q1 := A1.cell
  have z1 := A1.fz
  have hS := A1.set hR1 hne
  have hkS : Keep (fun j => j = r) w (w1.setCell ⟨r, 0, none⟩ (.slice b (n - k) d)) := (Keep.ofBelow hb1).trans ((Keep.refl (fun k => k = r) w1).setCell (p := ⟨r, 0, none⟩) rfl _)
  clear hU hs h
  go_wp2_with (go_at_call 56; refine (ask_yes _).mono ?_; rintro e w2 ⟨rfl, rfl⟩)
  go_ret
  exact ⟨rfl, ⟨b, n - k, d, hS, Nat.sub_le _ _, fun ad had => (ho1.lt ad.block (by rw [had]; rfl)).1⟩, hkS⟩

set_option maxRecDepth 100000 in
set_option maxHeartbeats 1600000 in
theorem number_no (r : Nat) (a : Option Addr) (n c : Nat) (xs : List Int) (most : Nat) (w : World) (hA : RAt w r a n c xs) (hn : n ≤ 1000000) (hm : most ≤ 1000000) (h : numOk xs most = false) :
    Calls Tryd.prog 59 #[.pointer (some ⟨r, 0, none⟩), .int .i64 most] w fun e w' => e = .panicked gaveC ∧ Below w.heap.size w w' := by
  have q := hA.cell
  have hU := uint_any a n c xs w hA.rd (by omega)
  unfold numOk at h
  have h' := of_decide_eq_false h
  obtain ⟨v, k, e, hs⟩ : ∃ v k e, scan xs 0 0 = (v, k, e) := ⟨_, _, _, rfl⟩
  rw [hs] at hU h'
  dsimp only at hU h'
  clear h hs
  by_cases he : e = 0
  · subst he
    have cB : ∀ u : World, Calls Tryd.prog 79 #[.slice a n c] w fun e w' => ∃ b m d, e = .returned (.tuple #[.int .u64 (v : Nat), .slice b m d, .int .i64 0]) ∧ Below w.heap.size w w' := fun _ => by
      refine hU.mono ?_
      rintro e w1 (⟨hx, _⟩ | ⟨_, v1, rfl, ho1, hb1⟩)
      · exact absurd rfl hx
      · obtain ⟨b, d, rfl, _⟩ := Rd.ofOwn ho1 (hA.rd.bytes.drop k)
        exact ⟨b, _, d, rfl, hb1⟩
    replace cB := cB w
    clear hU
    by_cases h1 : 1 ≤ v
    · have hz1 : (1 : Int) ≤ (v : Int) := by omega
      have hz2 : ¬ v ≤ most := by omega
      have hz3 : decide (v ≤ most) = false := decide_eq_false hz2
      go_enter Tryd.func59, Tryd.ntmps59
      go_wp2_with (first
        | (go_at_call 79; refine cB.mono ?_; rintro e w1 ⟨b, m, d, rfl, hb1⟩)
        | (go_at_call 56; refine (ask_no _).mono ?_; rintro e w2 ⟨rfl, rfl⟩))
      exact ⟨rfl, rfl, hb1⟩
    · have hz1 : ¬ 1 ≤ v := by omega
      have hz3 : decide (1 ≤ v) = false := decide_eq_false hz1
      go_enter Tryd.func59, Tryd.ntmps59
      go_wp2_with (first
        | (go_at_call 79; refine cB.mono ?_; rintro e w1 ⟨b, m, d, rfl, hb1⟩)
        | (go_at_call 56; refine (ask_no _).mono ?_; rintro e w2 ⟨rfl, rfl⟩))
      exact ⟨rfl, rfl, hb1⟩
  · have hz : (((e : Nat) : Int) == 0) = false := by simpa using he
    have cB : Calls Tryd.prog 79 #[.slice a n c] w fun x w' => x = .returned (.tuple #[.int .u64 0, .slice none 0 0, .int .i64 (e : Nat)]) ∧ w' = w := by
      refine hU.mono ?_
      rintro x w1 (⟨_, h1, h2⟩ | ⟨h0, _⟩)
      · exact ⟨h1, h2⟩
      · exact absurd h0 he
    clear hU h'
    generalize ((e : Nat) : Int) = E at cB hz
    go_enter Tryd.func59, Tryd.ntmps59
    go_wp2_with (first
      | (go_at_call 79; refine cB.mono ?_; rintro e w1 ⟨rfl, rfl⟩)
      | (go_at_call 56; refine (ask_no _).mono ?_; rintro e w2 ⟨rfl, rfl⟩))
    exact ⟨rfl, rfl, Below.refl _ _⟩

end Go.Proofs.YtiidjdedeenijaaDoor

/- creds' reader: the user, the salt, a key. -/
namespace Go.Proofs.YtiidjdedeenijaaDoor
open Go.RowKit

/-- The user, read. -/
def usrT (xs : List Int) : ByteArray := strOfNums ((xs.drop (scan xs 0 0).2.1).take (scan xs 0 0).1)
def usrR (xs : List Int) : List Int := (xs.drop (scan xs 0 0).2.1).drop (scan xs 0 0).1
def usrOk (xs : List Int) : Bool := decide (terr xs 64 = 0) && prepB (usrT xs)

theorem strOf_size (xs : List Int) : (strOfNums xs).size = xs.length := str_size xs

set_option maxRecDepth 100000 in
set_option maxHeartbeats 1600000 in
theorem user_ok (r : Nat) (a : Option Addr) (n c : Nat) (xs : List Int) (w : World) (hA : RAt w r a n c xs) (hn : n ≤ 1000000) (hT : Lib.Utf8Tabs 0 1 w) (hV : Tabs w) (h : usrOk xs = true) :
    Calls Tryd.prog 57 #[.pointer (some ⟨r, 0, none⟩)] w fun e w' => e = .returned (.string (usrT xs)) ∧ (∃ b m d, RAt w' r b m d (usrR xs) ∧ m ≤ n ∧ ∀ ad, b = some ad → w.heap.size ≤ ad.block) ∧ Keep (fun j => j = r) w w' := by
  have q := hA.cell
  unfold usrOk at h
  simp only [Bool.and_eq_true] at h
  have h1 := of_decide_eq_true h.1
  have hU := text_read a n c xs 64 w hA.rd hV (by omega) (by omega) (by omega)
  have hsz : (usrT xs).size ≤ 9223372036854775807 := by
    unfold usrT
    rw [strOf_size, List.length_take, List.length_drop, hA.rd.len]
    omega
  have cP := fun v hb => isPrep_any (usrT xs) v hsz (Nm.tabs_below hT hb)
  rw [h.2] at cP
  have bR : Bd (usrR xs) := (hA.rd.bytes.drop _).drop _
  have cU : Calls Tryd.prog 77 #[.slice a n c, .int .i64 64] w fun e w' => ∃ b m d, e = .returned (.tuple #[.string (usrT xs), .slice b m d, .int .i64 0]) ∧ Rd w' b m d (usrR xs) ∧ m ≤ n ∧ (∀ ad, b = some ad → w.heap.size ≤ ad.block) ∧ Below w.heap.size w w' := by
    refine hU.mono ?_
    rintro e w1 (⟨hx, _⟩ | ⟨_, v1, rfl, ho1, hb1⟩)
    · exact absurd h1 hx
    · obtain ⟨b, d, rfl, hr⟩ := Rd.ofOwn ho1 bR
      exact ⟨b, _, d, rfl, hr, by omega, fun ad had => (ho1.lt ad.block (by rw [had]; rfl)).1, hb1⟩
  generalize usrT xs = U at cU cP ⊢
  generalize usrR xs = R at cU ⊢
  clear hU h h1 bR hsz
  go_enter Tryd.func57, Tryd.ntmps57
  go_upto_region 3 with (first
    | (go_at_call 77; refine cU.mono ?_; rintro e w1 ⟨b, m, d, rfl, hR1, hm1, hl1, hb1⟩)
    | (go_at_call 30; refine (cP _ hb1).mono ?_; rintro e w2 ⟨rfl, hb2⟩; have b2 := hb1.trans (hb2.mono hb1.size); have A2 := hA.below b2; have q2 := A2.cell; have z2 := A2.fz)
    | (go_at_call 56; refine (ask_yes _).mono ?_; rintro e w3 ⟨rfl, rfl⟩))
  have hne : ∀ ad, b = some ad → ad.block ≠ r := fun ad had e => by
    have := hl1 ad had
    have := hA.lt
    omega
  have hS := A2.set (hR1.carry (Nat.le_refl _) hb2) hne
  go_wp2
  go_ret
  exact ⟨rfl, ⟨b, m, d, hS, hm1, hl1⟩, (Keep.ofBelow b2).trans ((Keep.refl (fun k => k = r) _).setCell (p := ⟨r, 0, none⟩) rfl _)⟩

set_option maxRecDepth 100000 in
set_option maxHeartbeats 1600000 in
theorem user_no (r : Nat) (a : Option Addr) (n c : Nat) (xs : List Int) (w : World) (hA : RAt w r a n c xs) (hn : n ≤ 1000000) (hT : Lib.Utf8Tabs 0 1 w) (hV : Tabs w) (h : usrOk xs = false) :
    Calls Tryd.prog 57 #[.pointer (some ⟨r, 0, none⟩)] w fun e w' => e = .panicked gaveC ∧ Below w.heap.size w w' := by
  have q := hA.cell
  unfold usrOk at h
  have hU := text_read a n c xs 64 w hA.rd hV (by omega) (by omega) (by omega)
  have hsz : (usrT xs).size ≤ 9223372036854775807 := by
    unfold usrT
    rw [strOf_size, List.length_take, List.length_drop, hA.rd.len]
    omega
  have cP := fun v hb => isPrep_any (usrT xs) v hsz (Nm.tabs_below hT hb)
  have bR : Bd (usrR xs) := (hA.rd.bytes.drop _).drop _
  by_cases h1 : terr xs 64 = 0
  · have h2 : prepB (usrT xs) = false := by rw [decide_eq_true h1] at h; simpa using h
    rw [h2] at cP
    have cU : Calls Tryd.prog 77 #[.slice a n c, .int .i64 64] w fun e w' => ∃ b m d, e = .returned (.tuple #[.string (usrT xs), .slice b m d, .int .i64 0]) ∧ Below w.heap.size w w' := by
      refine hU.mono ?_
      rintro e w1 (⟨hx, _⟩ | ⟨_, v1, rfl, ho1, hb1⟩)
      · exact absurd h1 hx
      · obtain ⟨b, d, rfl, hr⟩ := Rd.ofOwn ho1 bR
        exact ⟨b, _, d, rfl, hb1⟩
    generalize usrT xs = U at cU cP
    clear hU h h1 bR hsz h2
    go_enter Tryd.func57, Tryd.ntmps57
    go_wp2_with (first
      | (go_at_call 77; refine cU.mono ?_; rintro e w1 ⟨b, m, d, rfl, hb1⟩)
      | (go_at_call 30; refine (cP _ hb1).mono ?_; rintro e w2 ⟨rfl, hb2⟩; have b2 := hb1.trans (hb2.mono hb1.size))
      | (go_at_call 56; refine (ask_no _).mono ?_; rintro e w3 ⟨rfl, rfl⟩))
    exact ⟨rfl, rfl, b2⟩
  · have hz : (((terr xs 64 : Nat) : Int) == 0) = false := by simpa using h1
    have cU : Calls Tryd.prog 77 #[.slice a n c, .int .i64 64] w fun e w' => e = .returned (.tuple #[.string ⟨#[]⟩, .slice none 0 0, .int .i64 (terr xs 64 : Nat)]) ∧ Below w.heap.size w w' := by
      refine hU.mono ?_
      rintro e w1 (⟨_, hx⟩ | ⟨hx, _⟩)
      · exact hx
      · exact absurd hx h1
    generalize ((terr xs 64 : Nat) : Int) = E at cU hz
    clear hU h h1 bR hsz cP
    go_enter Tryd.func57, Tryd.ntmps57
    go_wp2_with (first
      | (go_at_call 77; refine cU.mono ?_; rintro e w1 ⟨rfl, hb1⟩)
      | (go_at_call 56; refine (ask_no _).mono ?_; rintro e w3 ⟨rfl, rfl⟩))
    exact ⟨rfl, rfl, hb1⟩

end Go.Proofs.YtiidjdedeenijaaDoor

/- creds' reader: the salt, a key. -/
namespace Go.Proofs.YtiidjdedeenijaaDoor
open Go.RowKit

theorem exec_copy32 {o : Oper} {ρ : Operand → Value} {w : World} (d s : Operand) (ho : o.op = .call { callee := .builtin .copy, args := #[d, s], argTypes := #[22, 22] }) (g cd : Nat) (hd : ρ d = .slice (some ⟨g, 0, none⟩) 32 cd) (t : TypeId) (xs : List Int) (hg : Ar w g t .u8 xs) (hn : xs.length = 32)
    (ao : Option Addr) (c : Nat) (ys : List Int) (hs : ρ s = .slice ao 32 c) (hr : Rd w ao 32 c ys) : (execOp ρ o).run Tryd.prog w = .ok (.value (goInt 32)) (w.setRow g (ic .u8 ys).toArray) := by
  have hu : Tryd.prog.underlying 22 = some (.slice 5) := Tryd.underlying22
  have hsz : (Tryd.prog.info? 5).map (·.size) = some 1 := by kernel_rfl
  have hl := hr.len
  cases ao with
  | none => obtain ⟨h1, _⟩ := rd_noneK hr rfl; omega
  | some ad =>
    have hrun := run_copy_row (P := Tryd.prog) w 22 22 o.type 5 g 0 32 cd ad 32 c _ t (bc ys) hu hsz hg (by rw [bc_len, hl]; rfl) (fun j v hv => hr.news rfl j v hv) (by rw [bc_len, hl]; simp [ic_len, hn]) (bc_one ys)
    have e : ((ic .u8 xs).toArray.toList.take 0 ++ bc ys ++ (ic .u8 xs).toArray.toList.drop (0 + (bc ys).length)).toArray = (ic .u8 ys).toArray := by
      have : (ic .u8 xs).drop (bc ys).length = [] := List.drop_eq_nil_of_le (by rw [ic_len, bc_len, hn, hl]; exact Nat.le_refl _)
      simp only [List.take_zero, List.nil_append, Nat.zero_add, this, List.append_nil]
      rfl
    rw [e, bc_len, hl] at hrun
    simp only [execOp, ho, resolve, invoke, builtin, Sem.run_bind, Sem.run_pure, Result.andThen_ok, List.map_toArray, List.map_cons, List.map_nil, hd, hs, hrun]
    rfl

/-- The reader stands so; what is left lies in none of the blocks F (the reader's own among them). -/
def Lft (F : Nat → Prop) (w : World) (r : Nat) (N : Nat) (xs : List Int) : Prop := ∃ b m d, RAt w r b m d xs ∧ m ≤ N ∧ ∀ ad, b = some ad → ¬ F ad.block
theorem Lft.below {F : Nat → Prop} {w w' : World} {r N : Nat} {xs : List Int} (h : Lft F w r N xs) (hb : Below w.heap.size w w') : Lft F w' r N xs := by
  obtain ⟨b, m, d, h1, h2, h3⟩ := h
  exact ⟨b, m, d, h1.below hb, h2, h3⟩
/-- What is read stands where what is written lies elsewhere; of nothing nothing is asked. -/
theorem Rd.apart {S : Nat → Prop} {w w' : World} {a : Option Addr} {n c : Nat} {xs : List Int} (h : Rd w a n c xs) (hk : Keep S w w') (hs : ∀ ad, a = some ad → 0 < n → ¬ S ad.block) : Rd w' a n c xs := by
  by_cases hn : n = 0
  · exact ⟨h.len, h.cap, h.most, h.nil, h.bytes, fun _ _ j hj => by omega⟩
  · exact h.keep hk (fun ad had => hs ad had (by omega))

def saltOk (xs : List Int) : Bool := numOk xs 32 && decide ((scan xs 0 0).1 ≤ xs.length - (scan xs 0 0).2.1)
def saltT (xs : List Int) : List Int := (xs.drop (scan xs 0 0).2.1).take (scan xs 0 0).1
def saltR (xs : List Int) : List Int := (xs.drop (scan xs 0 0).2.1).drop (scan xs 0 0).1

set_option maxRecDepth 100000 in
set_option maxHeartbeats 1600000 in
theorem salt_ok (F : Nat → Prop) (r N : Nat) (xs : List Int) (w : World) (hA : Lft F w r N xs) (hFr : F r) (hF : ∀ k, F k → k < w.heap.size) (hN : N ≤ 1000000) (h : saltOk xs = true) :
    Calls Tryd.prog 58 #[.pointer (some ⟨r, 0, none⟩)] w fun e w' => (∃ a' n' c', e = .returned (.slice a' n' c') ∧ Rd w' a' n' c' (saltT xs) ∧ ∀ ad, a' = some ad → ad.block ≠ r ∧ w.heap.size ≤ ad.block) ∧ Lft F w' r N (saltR xs) ∧ Keep (fun j => j = r) w w' := by
  obtain ⟨a, n, c, hA, hn, hneF⟩ := hA
  have hne : ∀ ad, a = some ad → ad.block ≠ r := fun ad had e => hneF ad had (by rw [e]; exact hFr)
  unfold saltOk at h
  simp only [Bool.and_eq_true] at h
  have h2 := of_decide_eq_true h.2
  have hl := hA.rd.len
  have cN := number_ok r a n c xs 32 w hA (by omega) (by omega) h.1
  have h31 : (scan xs 0 0).1 ≤ 32 := by have := of_decide_eq_true h.1; omega
  unfold saltT saltR
  obtain ⟨v, k, e, hs⟩ : ∃ v k e, scan xs 0 0 = (v, k, e) := ⟨_, _, _, rfl⟩
  rw [hs] at cN h2 h31 ⊢
  dsimp only at cN h2 h31 ⊢
  have hyl : (xs.drop k).length = n - k := by rw [List.length_drop, hl]
  generalize xs.drop k = ys at cN hyl ⊢
  clear h hs
  go_enter Tryd.func58, Tryd.ntmps58
  go_wp2_with (first
    | (go_at_call 59; refine cN.mono ?_; clear cN; rintro e w1 ⟨rfl, ⟨b, m, d, A1, hm1, hnew1⟩, hk1⟩; have hm2 := A1.rd.len; have hne1 : ∀ ad, b = some ad → ad.block ≠ r := fun ad had e => by (have := hnew1 ad had; have := hA.lt; omega))
    | (go_at_call 78; refine (bytes_ok r b m d ys v _ A1 (by omega) (by omega) hne1).mono ?_; rintro e w2 ⟨b2, d2, rfl, A2, hlo2, hR2, hk2⟩; have hne2 : ∀ ad, b2 = some ad → ¬ F ad.block := fun ad had f => by (obtain ⟨a0, h0, e0⟩ := hlo2 ad had; have := hnew1 a0 h0; have := hF _ f; omega))
    | (go_at_call 23; refine (bclone_any b v d (ys.take v) _ hR2 (by omega)).mono ?_; rintro e w3 ⟨a3, c3, rfl, hR3, hb3, hl3⟩))
  go_ret
  have k2 := hk1.trans hk2
  refine ⟨⟨a3, v, c3, rfl, hR3, fun ad had => ?_⟩, ⟨b2, m - v, d2, A2.below hb3, by omega, hne2⟩, k2.trans (Keep.ofBelow hb3)⟩
  have := hl3 ad had
  have := A2.lt
  have := k2.size
  exact ⟨by omega, by omega⟩

set_option maxRecDepth 100000 in
set_option maxHeartbeats 1600000 in
theorem salt_no (F : Nat → Prop) (r N : Nat) (xs : List Int) (w : World) (hA : Lft F w r N xs) (hFr : F r) (hN : N ≤ 1000000) (h : saltOk xs = false) :
    Calls Tryd.prog 58 #[.pointer (some ⟨r, 0, none⟩)] w fun e w' => e = .panicked gaveC ∧ Keep (fun j => j = r) w w' := by
  obtain ⟨a, n, c, hA, hn, hneF⟩ := hA
  have hne : ∀ ad, a = some ad → ad.block ≠ r := fun ad had e => hneF ad had (by rw [e]; exact hFr)
  unfold saltOk at h
  have hl := hA.rd.len
  by_cases h1 : numOk xs 32 = true
  · have cN := number_ok r a n c xs 32 w hA (by omega) (by omega) h1
    have h2 : ¬ (scan xs 0 0).1 ≤ xs.length - (scan xs 0 0).2.1 := by
      intro g
      rw [h1, decide_eq_true g] at h
      cases h
    obtain ⟨v, k, e, hs⟩ : ∃ v k e, scan xs 0 0 = (v, k, e) := ⟨_, _, _, rfl⟩
    rw [hs] at cN h2
    dsimp only at cN h2
    have hyl : (xs.drop k).length = n - k := by rw [List.length_drop, hl]
    generalize xs.drop k = ys at cN hyl
    clear h h1 hs
    go_enter Tryd.func58, Tryd.ntmps58
    go_wp2_with (first
      | (go_at_call 59; refine cN.mono ?_; clear cN; rintro e w1 ⟨rfl, ⟨b, m, d, A1, hm1, hnew1⟩, hk1⟩; have hm2 := A1.rd.len; have hne1 : ∀ ad, b = some ad → ad.block ≠ r := fun ad had e => by (have := hnew1 ad had; have := hA.lt; omega))
      | (go_at_call 78; refine (bytes_no r b m d ys v _ A1 (by omega)).mono ?_; rintro e w2 ⟨rfl, rfl⟩))
    exact ⟨rfl, rfl, hk1⟩
  · have cN := number_no r a n c xs 32 w hA (by omega) (by omega) (by simpa using h1)
    clear h h1
    go_enter Tryd.func58, Tryd.ntmps58
    go_wp2_with (first
      | (go_at_call 59; refine cN.mono ?_; clear cN; rintro e w1 ⟨rfl, hb1⟩))
    exact ⟨rfl, rfl, Keep.ofBelow hb1⟩

set_option maxRecDepth 100000 in
set_option maxHeartbeats 1600000 in
theorem key_ok (F : Nat → Prop) (r N : Nat) (xs : List Int) (w : World) (hA : Lft F w r N xs) (hFr : F r) (hN : N ≤ 1000000) (h : 32 ≤ xs.length) :
    Calls Tryd.prog 60 #[.pointer (some ⟨r, 0, none⟩)] w fun e w' => e = .returned (.agg (ic .u8 (xs.take 32)).toArray) ∧ Lft F w' r N (xs.drop 32) ∧ Keep (fun j => j = r) w w' := by
  have hi23 := size_of Tryd.u23
  go_enter Tryd.func60, Tryd.ntmps60
  go_upto_region 1 with (first
    | (refine wp_alloc_ar rfl 26 rfl .u8 (List.replicate 32 0) 32 Tryd.z23 ?_; intro g2 w1 A2 hg2 hb1))
  refine wp_region_lx (fun _ => True) [] 4 (by kernel_rfl) (by kernel_rfl) ?_
  have HS : True := trivial
  have e1 := hb1.drew
  have A2d : Ar w1.drew g2 26 .u8 (List.replicate 32 0) := A2.drewN 1
  obtain ⟨a, n, c, hAw, hn, hneF⟩ := hA
  have hne : ∀ ad, a = some ad → ad.block ≠ r := fun ad had e => hneF ad had (by rw [e]; exact hFr)
  have hAd := hAw.below e1
  have hl := hAd.rd.len
  generalize w1.drew = W at e1 A2d hAd ⊢
  refine lx_rd 0 (.slice (some ⟨g2, 0, none⟩) 32 32) (by kernel_rfl) (fun _ _ d _ _ h => by cases d <;> exact h) (by kernel_rfl) HS rfl rfl rfl (fun w' hS => ?hR0) ?_
  case hR0 => first | (go_simp; rfl) | go_simp
  simp only [List.setIfInBounds_toArray, List.set_cons_zero, List.set_cons_succ]
  refine lx_rd 1 ?vR1 (by kernel_rfl) (fun _ _ d _ _ h => by cases d <;> exact h) (by kernel_rfl) HS rfl rfl rfl (fun w' hS => ?hR1) ?_
  case hR1 => first | (go_simp; rfl) | go_simp
  simp only [List.setIfInBounds_toArray, List.set_cons_zero, List.set_cons_succ]
  refine lx_one 2 (by kernel_rfl) (stepT_call 78 ?aR2 rfl rfl rfl ?rR2 ?_)
  case rR2 => first | (go_simp; rfl) | go_simp
  refine (bytes_ok r a n c xs 32 W hAd (by omega) (by omega) hne).mono ?_
  rintro e w2 ⟨b, d, rfl, A3, hlo3, hR3, hk3⟩
  have hg2r : g2 ≠ r := by have := hAw.lt; omega
  have A4 := A2d.keep hk3 hg2r
  refine ⟨_, rfl, fun _ => trivial, ?_⟩
  simp only [List.setIfInBounds_toArray, List.set_cons_zero, List.set_cons_succ]
  have htl : (xs.take 32).length = 32 := by rw [List.length_take]; omega
  have hkg : Keep (fun j => j = g2) w2 (w2.setRow g2 (ic .u8 (xs.take 32)).toArray) := ⟨rfl, rfl, rfl, by simp, fun j _ hj => setRow_other w2 g2 j _ hj⟩
  have A5 : Ar (w2.setRow g2 (ic .u8 (xs.take 32)).toArray) g2 26 .u8 (xs.take 32) := setRow_heap w2 g2 _ _ _ (0, 0) A4
  refine lx_one 3 (by kernel_rfl) (stepT_val (w' := w2.setRow g2 (ic .u8 (xs.take 32)).toArray) (goInt 32) rfl rfl rfl ?rR3 (fun _ => trivial) ?_)
  case rR3 => exact exec_copy32 (.tmp 3) (.tmp 5) rfl g2 32 rfl 26 _ A4 (by simp) a c (xs.take 32) rfl hR3
  simp only [List.setIfInBounds_toArray, List.set_cons_zero, List.set_cons_succ]
  refine lx_nil (by kernel_rfl) ?_
  have hold : ∀ ad, b = some ad → ad.block < w.heap.size ∧ ¬ F ad.block := fun ad had => by
    obtain ⟨a0, h0, e0⟩ := hlo3 ad had
    rw [e0]
    exact ⟨hAw.rd.blk (by omega) h0, hneF a0 h0⟩
  have A6 : RAt (w2.setRow g2 (ic .u8 (xs.take 32)).toArray) r b (n - 32) d (xs.drop 32) := ⟨(hkg.block r A3.lt (fun e => hg2r e.symm)).trans A3.blk, A3.rd.apart hkg (fun ad had _ e => by have := (hold ad had).1; omega)⟩
  have k6 : Keep (fun j => j = r) w (w2.setRow g2 (ic .u8 (xs.take 32)).toArray) := ((Keep.ofBelow e1).trans hk3).andThen hkg (fun k hk e => by omega)
  generalize w2.setRow g2 (ic .u8 (xs.take 32)).toArray = WX at A5 A6 k6 ⊢
  clear hkg A4 A3 hk3 A2d
  have L6 : Lft F WX r N (xs.drop 32) := ⟨b, n - 32, d, A6, by omega, fun ad had => (hold ad had).2⟩
  go_wp2_with (first
    | (refine wp_load_ar rfl 26 (.tmp 2) rfl g2 rfl 26 .u8 (xs.take 32) 5 32 A5 Tryd.u23 htl ?_)
    | (refine wp_store_ar rfl 26 (.tmp 2) (.tmp 7) rfl g2 rfl .u8 (xs.take 32) rfl 26 _ A5 (by rw [htl]) (by rw [htl]; exact hi23.2) ?_; intro w7 A7 hk7 hs7; clear hs7))
  have k7 : Keep (fun j => j = r) w w7 := k6.andThen hk7 (fun k hk e => by omega)
  have A8 : RAt w7 r b (n - 32) d (xs.drop 32) := ⟨(hk7.block r A6.lt (fun e => hg2r e.symm)).trans A6.blk, A6.rd.apart hk7 (fun ad had _ e => by have := (hold ad had).1; omega)⟩
  exact bodyPost_ret (v := .agg (ic .u8 (xs.take 32)).toArray) (ar_results rfl _ _ g2 26 .u8 (xs.take 32) 5 32 rfl A7 Tryd.u23 htl) rfl ⟨rfl, ⟨b, n - 32, d, A8, by omega, fun ad had => (hold ad had).2⟩, k7⟩

set_option maxRecDepth 100000 in
set_option maxHeartbeats 1600000 in
theorem key_no (F : Nat → Prop) (r N : Nat) (xs : List Int) (w : World) (hA : Lft F w r N xs) (_ : F r) (h : xs.length < 32) :
    Calls Tryd.prog 60 #[.pointer (some ⟨r, 0, none⟩)] w fun e w' => e = .panicked gaveC ∧ Below w.heap.size w w' := by
  go_enter Tryd.func60, Tryd.ntmps60
  go_upto_region 1 with (first
    | (refine wp_alloc_ar rfl 26 rfl .u8 (List.replicate 32 0) 32 Tryd.z23 ?_; intro g2 w1 A2 hg2 hb1))
  refine wp_region_lx (fun _ => True) [] 4 (by kernel_rfl) (by kernel_rfl) ?_
  have HS : True := trivial
  have e1 := hb1.drew
  obtain ⟨a, n, c, hAd, hn, hneF⟩ := hA.below e1
  have hl := hAd.rd.len
  generalize w1.drew = W at e1 hAd ⊢
  refine lx_rd 0 (.slice (some ⟨g2, 0, none⟩) 32 32) (by kernel_rfl) (fun _ _ d _ _ h => by cases d <;> exact h) (by kernel_rfl) HS rfl rfl rfl (fun w' hS => ?hQ0) ?_
  case hQ0 => first | (go_simp; rfl) | go_simp
  simp only [List.setIfInBounds_toArray, List.set_cons_zero, List.set_cons_succ]
  refine lx_rd 1 ?vQ1 (by kernel_rfl) (fun _ _ d _ _ h => by cases d <;> exact h) (by kernel_rfl) HS rfl rfl rfl (fun w' hS => ?hQ1) ?_
  case hQ1 => first | (go_simp; rfl) | go_simp
  simp only [List.setIfInBounds_toArray, List.set_cons_zero, List.set_cons_succ]
  refine lx_one 2 (by kernel_rfl) (stepT_callP 78 ?aR2 rfl rfl rfl ?rR2 ?_)
  case rR2 => first | (go_simp; rfl) | go_simp
  refine (bytes_no r a n c xs 32 W hAd (by omega)).mono ?_
  rintro e w2 ⟨rfl, rfl⟩
  exact Or.inr ⟨_, rfl, rfl, rfl, e1⟩

end Go.Proofs.YtiidjdedeenijaaDoor
