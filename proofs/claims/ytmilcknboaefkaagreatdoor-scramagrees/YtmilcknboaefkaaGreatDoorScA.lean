/- scram's reader: its small methods, each of what is left of a message. -/
import Derived.Test.YtmilcknboaefkaaGreatDoorOwnA
import Derived.Test.YtmilcknboaefkaaGreatDoorB6A
import Derived.Test.YtmilcknboaefkaaGreatDoorScP
import Derived.Test.YtmilcknboaefkaaGreatDoorShelf
import Derived.WalkKit
import Derived.WalkLawsBesides
import Derived.WalkSpells
namespace Go.Proofs.YtmilcknboaefkaaGreatDoor
open Go.RowKit Go.Shelf

theorem str_il (l : Tx) : strOfNums (il l) = ⟨l.toArray⟩ := str_nums ⟨l.toArray⟩
theorem il_len (l : Tx) : (il l).length = l.length := by simp [il]
theorem il_bd (l : Tx) : Bd (il l) := nums_bd ⟨l.toArray⟩
theorem size_tx (l : Tx) : (⟨l.toArray⟩ : ByteArray).size = l.length := by simp [ByteArray.size]
theorem drop_tx (l : Tx) (k : Nat) : (⟨l.toArray⟩ : ByteArray).extract k l.length = ⟨(l.drop k).toArray⟩ := by
  rw [Lib.extract_eq]
  show (⟨((l.drop k).take (l.length - k)).toArray⟩ : ByteArray) = _
  rw [List.take_of_length_le (by rw [List.length_drop]; exact Nat.le_refl _)]
theorem take_tx (l : Tx) (k : Nat) : (⟨l.toArray⟩ : ByteArray).extract 0 k = ⟨(l.take k).toArray⟩ := by
  rw [Lib.extract_eq]
  show (⟨((l.drop 0).take (k - 0)).toArray⟩ : ByteArray) = _
  simp
theorem tx_list (l : Tx) : (⟨l.toArray⟩ : ByteArray).toList = l := Lib.toList_data _
theorem tx_eq (a b : Tx) : ((⟨a.toArray⟩ : ByteArray).toList == (⟨b.toArray⟩ : ByteArray).toList) = decide (a = b) := by
  rw [tx_list, tx_list]
  by_cases h : a = b
  · subst h; simp
  · simp [h]

/-- What of a message is not read yet. -/
def RAt (w : World) (B : Nat) (L : Tx) : Prop := w.heap[B]? = some (.cells #[.string ⟨L.toArray⟩] 70 (0, 0))
theorem RAt.lt {w : World} {B : Nat} {L : Tx} (h : RAt w B L) : B < w.heap.size := (Array.getElem?_eq_some_iff.1 h).1
theorem RAt.cell {w : World} {B : Nat} {L : Tx} (h : RAt w B L) : w.cell? ⟨B, 0, none⟩ = some (.string ⟨L.toArray⟩) := by unfold RAt at h; simp [World.cell?, h]
theorem RAt.fz {w : World} {B : Nat} {L : Tx} (h : RAt w B L) : w.frozen? ⟨B, 0, none⟩ = false := by unfold RAt at h; simp [World.frozen?, h]
theorem RAt.set {w : World} {B : Nat} {L : Tx} (h : RAt w B L) (R : Tx) : RAt (w.setCell ⟨B, 0, none⟩ (.string ⟨R.toArray⟩)) B R := by
  unfold RAt at h ⊢
  simp [World.setCell, Array.getElem?_modify, h]
theorem RAt.keep {S : Nat → Prop} {w w' : World} {B : Nat} {L : Tx} (h : RAt w B L) (hk : Keep S w w') (hs : ¬ S B) : RAt w' B L := (hk.block B h.lt hs).trans h
theorem RAt.below {w w' : World} {B : Nat} {L : Tx} (h : RAt w B L) (hb : Below w.heap.size w w') : RAt w' B L := (hb.block B h.lt).trans h
theorem RAt.drewN {w : World} {B : Nat} {L : Tx} (h : RAt w B L) (n : Nat) : RAt (w.drewN n) B L := h
theorem Keep.drewN {S : Nat → Prop} {a b : World} (h : Keep S a b) (n : Nat) : Keep S a (b.drewN n) := ⟨h.os, h.tape, h.output, h.size, h.block⟩

/-- The value with which a reader gives up. -/
def gaveUp (n : Int) : List PanicEntry := [{ v := .iface 103 (.agg #[.int .i64 n]), recovered := false }]
theorem giveUp_any (n : Int) (w : World) : Calls Tryz.prog 78 #[.int .i64 n] w fun e w' => e = .panicked (gaveUp n) ∧ w' = w := by
  go_enter Tryz.func78, Tryz.ntmps78
  go_wp2
  exact ⟨rfl, rfl, rfl⟩

theorem hasPrefix_any (L p : Tx) (w : World) : Calls Tryz.prog 90 #[.string ⟨L.toArray⟩, .string ⟨p.toArray⟩] w fun e w' => e = .returned (.bool (p.isPrefixOf L)) ∧ w' = w :=
  Any.strings_HasPrefix Tryz.lays99 ⟨L.toArray⟩ ⟨p.toArray⟩ w
theorem cutPrefix_any (L p : Tx) (w : World) : Calls Tryz.prog 84 #[.string ⟨L.toArray⟩, .string ⟨p.toArray⟩] w fun e w' => e = .returned (.tuple #[.string ⟨(Lib.trimPrefix L p).toArray⟩, .bool (p.isPrefixOf L)]) ∧ w' = w :=
  Any.strings_CutPrefix Tryz.lays103 ⟨L.toArray⟩ ⟨p.toArray⟩ w
theorem cutPrefix_ok {L p R : Tx} (h : sgn p L = some R) (w : World) : Calls Tryz.prog 84 #[.string ⟨L.toArray⟩, .string ⟨p.toArray⟩] w fun e w' => e = .returned (.tuple #[.string ⟨R.toArray⟩, .bool true]) ∧ w' = w := by
  have c := cutPrefix_any L p w
  have hp : p.isPrefixOf L = true := by
    unfold sgn at h; split at h
    · assumption
    · cases h
  have e : Lib.trimPrefix L p = R := by
    unfold sgn at h; rw [if_pos hp] at h
    unfold Lib.trimPrefix Lib.hasPrefix; rw [if_pos hp]; exact Option.some.inj h
  rw [hp, e] at c
  exact c
theorem cutPrefix_no {L p : Tx} (h : sgn p L = none) (w : World) : Calls Tryz.prog 84 #[.string ⟨L.toArray⟩, .string ⟨p.toArray⟩] w fun e w' => e = .returned (.tuple #[.string ⟨L.toArray⟩, .bool false]) ∧ w' = w := by
  have c := cutPrefix_any L p w
  have hp : p.isPrefixOf L = false := by
    cases hq : p.isPrefixOf L with
    | false => rfl
    | true => unfold sgn at h; rw [if_pos hq] at h; cases h
  have e : Lib.trimPrefix L p = L := by
    unfold Lib.trimPrefix Lib.hasPrefix; rw [hp]; rfl
  rw [hp, e] at c
  exact c
theorem lclone_any (s : ByteArray) (w : World) (hs : s.size ≤ 281474976710656) : Calls Tryz.prog 91 #[.string s] w fun e w' => e = .returned (.string s) ∧ Below w.heap.size w w' :=
  Any.stringslite_Clone Tryz.laysM316 s w hs
theorem clone_any (s : ByteArray) (w : World) (hs : s.size ≤ 281474976710656) : Calls Tryz.prog 75 #[.string s] w fun e w' => e = .returned (.string s) ∧ Below w.heap.size w w' := by
  have c := lclone_any s w hs
  go_enter Tryz.func75, Tryz.ntmps75
  go_wp2_with (go_at_call 91; refine c.mono ?_; rintro e w1 ⟨rfl, hb⟩)
  go_ret
  exact ⟨rfl, hb⟩

/-- internal/bytealg.MaxLen holds some number. -/
def Mx (w : World) : Prop := ∃ m, w.cell? ⟨5, 0, none⟩ = some (.int .i64 m)
theorem Mx.below {w w' : World} (h : Mx w) (hb : Below w.heap.size w w') : Mx w' := by
  obtain ⟨m, hm⟩ := h
  exact ⟨m, (hb.cell (p := ⟨5, 0, none⟩) (World.block_lt_of_cell? w _ hm)).trans hm⟩
theorem Mx.lt {w : World} (h : Mx w) : 5 < w.heap.size := by obtain ⟨m, hm⟩ := h; exact World.block_lt_of_cell? w _ hm
theorem Mx.keep {S : Nat → Prop} {w w' : World} (h : Mx w) (hk : Keep S w w') (hs : ¬ S 5) : Mx w' := by
  obtain ⟨m, hm⟩ := h
  exact ⟨m, hk.cell hm hs⟩

theorem cut_any (L : Tx) (w : World) (hs : L.length ≤ 1000000) (hM : Mx w) : Calls Tryz.prog 68 #[.string ⟨L.toArray⟩, .string ⟨#[44]⟩] w fun e w' => (∃ R : Tx, e = .returned (.tuple #[.string ⟨(prt L).toArray⟩, .string ⟨R.toArray⟩, .bool (decide (ix 44 L < L.length))])) ∧ ∃ q, w' = w.drewN q := by
  obtain ⟨m, hm⟩ := hM
  refine (Any.strings_Cut Tryz.lays145 ⟨L.toArray⟩ ⟨#[44]⟩ m w (by rw [size_tx]; omega) hm).mono ?_
  rintro e w' ⟨rfl, q, rfl⟩
  refine ⟨⟨(Lib.cut L [44]).2.1, ?_⟩, q, rfl⟩
  have h1 := prt_cut L
  have h2 := cut_more L
  rw [← h1, ← h2]

theorem sign_ok (B : Nat) (L p R : Tx) (w : World) (hA : RAt w B L) (h : sgn p L = some R) :
    Calls Tryz.prog 60 #[.pointer (some ⟨B, 0, none⟩), .string ⟨p.toArray⟩] w fun e w' => e = .returned (.tuple #[]) ∧ RAt w' B R ∧ Keep (fun j => j = B) w w' := by
  have hc := hA.cell
  have hf := hA.fz
  have c := cutPrefix_ok h w
  have hr : RAt (w.setCell ⟨B, 0, none⟩ (.string ⟨R.toArray⟩)) B R := hA.set R
  clear hA h
  go_enter Tryz.func60, Tryz.ntmps60
  go_wp2_with (go_at_call 84; refine c.mono ?_; rintro e w1 ⟨rfl, rfl⟩)
  go_end0
  exact ⟨rfl, hr, Keep.setCell (S := fun j => j = B) (Keep.refl _ _) rfl _⟩
theorem sign_no (B : Nat) (L p : Tx) (w : World) (hA : RAt w B L) (h : sgn p L = none) :
    Calls Tryz.prog 60 #[.pointer (some ⟨B, 0, none⟩), .string ⟨p.toArray⟩] w fun e w' => e = .panicked (gaveUp 2) ∧ Keep (fun j => j = B) w w' := by
  have hc := hA.cell
  have c := cutPrefix_no h w
  clear hA h
  go_enter Tryz.func60, Tryz.ntmps60
  go_wp2_with (first
    | (go_at_call 84; refine c.mono ?_; rintro e w1 ⟨rfl, rfl⟩)
    | (go_at_call 78; refine (giveUp_any _ _).mono ?_; rintro e w3 ⟨rfl, rfl⟩))
  exact ⟨rfl, rfl, Keep.refl _ _⟩

theorem part_any (B : Nat) (L : Tx) (w : World) (hA : RAt w B L) (hL : L.length ≤ 1000000) (hM : Mx w) :
    Calls Tryz.prog 85 #[.pointer (some ⟨B, 0, none⟩)] w fun e w' => e = .returned (.string ⟨(prt L).toArray⟩) ∧ RAt w' B (rst L) ∧ Keep (fun j => j = B) w w' := by
  have hc := hA.cell
  have hf := hA.fz
  have c := cut_any L w hL hM
  have hle : (prt L).length ≤ L.length := by unfold prt; rw [List.length_take]; omega
  have hz := size_tx L
  have hz1 := size_tx (prt L)
  have hd := drop_tx L (prt L).length
  have he : L.drop (prt L).length = rst L := by
    have h : (prt L ++ rst L).drop (prt L).length = rst L := List.drop_left
    rwa [prt_rst] at h
  rw [he] at hd
  obtain ⟨S, HS⟩ : ∃ S, Hid ((⟨L.toArray⟩ : ByteArray) = S) := ⟨_, rfl⟩
  obtain ⟨T, HT⟩ : ∃ T, Hid ((⟨(prt L).toArray⟩ : ByteArray) = T) := ⟨_, rfl⟩
  obtain ⟨U, HU⟩ : ∃ U, Hid ((⟨(rst L).toArray⟩ : ByteArray) = U) := ⟨_, rfl⟩
  rw [HS.out] at hc hz hd c
  rw [HT.out] at c hz1 ⊢
  rw [HU.out] at hd
  obtain ⟨n, hn⟩ : ∃ n, L.length = n := ⟨_, rfl⟩
  obtain ⟨k, hk⟩ : ∃ k, (prt L).length = k := ⟨_, rfl⟩
  rw [hn] at hz hd hle
  rw [hk] at hz1 hd hle
  have hr : ∀ q, RAt ((w.drewN q).setCell ⟨B, 0, none⟩ (.string U)) B (rst L) := fun q => by rw [← HU.out]; exact (hA.drewN q).set _
  have hd' : Hid (S.extract k n = U) := hd
  clear hA he hn hk hL hd
  go_enter Tryz.func85, Tryz.ntmps85
  go_wp2_with (go_at_call 68; refine c.mono ?_; rintro e w1 ⟨⟨R, rfl⟩, q, rfl⟩)
  rw [hd'.out]
  go_ret
  exact ⟨rfl, hr q, Keep.setCell (S := fun j => j = B) ((Keep.refl _ w).drewN q) rfl _⟩
end Go.Proofs.YtmilcknboaefkaaGreatDoor
