/- Opening a log: what 'base' says; which files are its own. -/
import Derived.Test.YtikkieaokfailaaGreatDoorLgH
import Derived.Test.YtikkieaokfailaaGreatDoorDkD
import Derived.Deep.LoopGhost
namespace Go.Proofs.YtikkieaokfailaaGreatDoor
open Go.RowKit Go.Joins

theorem bytesOf_inj {xs ys : List Int} (hx : Bd xs) (hy : Bd ys) (h : Lib.bytesOf xs = Lib.bytesOf ys) : xs = ys := by
  induction xs generalizing ys with
  | nil => cases ys with
    | nil => rfl
    | cons y r => cases h
  | cons x r ih => cases ys with
    | nil => cases h
    | cons y s =>
      have h' : UInt8.ofNat x.toNat :: Lib.bytesOf r = UInt8.ofNat y.toNat :: Lib.bytesOf s := h
      obtain ⟨h1, h2⟩ := List.cons.inj h'
      have hx1 := hx x (List.mem_cons_self ..)
      have hy1 := hy y (List.mem_cons_self ..)
      have h3 := congrArg UInt8.toNat h1
      rw [UInt8.toNat_ofNat', UInt8.toNat_ofNat'] at h3
      have h4 : x = y := by omega
      rw [h4, ih (fun z hz => hx z (List.mem_cons_of_mem _ hz)) (fun z hz => hy z (List.mem_cons_of_mem _ hz)) h2]
theorem bytesOf_beq {xs ys : List Int} (hx : Bd xs) (hy : Bd ys) : (Lib.bytesOf xs == Lib.bytesOf ys) = decide (xs = ys) := by
  by_cases h : xs = ys
  · subst h; simp
  · rw [decide_eq_false h, beq_eq_false_iff_ne]
    exact fun e => h (bytesOf_inj hx hy e)
theorem bequal_any (a1 : Option Addr) (n1 c1 : Nat) (xs : List Int) (a2 : Option Addr) (n2 c2 : Nat) (ys : List Int) (w : World) (h1 : Rd w a1 n1 c1 xs) (h2 : Rd w a2 n2 c2 ys) :
    Calls Tryz.prog 131 #[.slice a1 n1 c1, .slice a2 n2 c2] w fun e w' => e = .returned (.bool (decide (xs = ys))) ∧ w' = w := by
  rw [← bytesOf_beq h1.bytes h2.bytes]
  exact Any.bytes_Equal { Tryz.laysb115 with } _ _ xs ys w h1.string h2.string

def sBase : Nm := ⟨#[98, 97, 115, 101]⟩
def sNew : Nm := ⟨#[98, 97, 115, 101, 46, 110, 101, 119]⟩
def sLog : Nm := ⟨#[108, 111, 103, 45]⟩
/-- The generation that the file says: the error's number, and it. -/
def baseR (r : Nat × List Int) : Nat × Nat :=
  if r.1 = 7 then (0, 1) else if r.1 ≠ 0 then (r.1, 0) else if r.2.length ≠ 12 then (14, 0) else
  if 0 < numL (r.2.take 8) ∧ r.2 = baseL (numL (r.2.take 8)) then (0, numL (r.2.take 8)) else (14, 0)
def GsV (p : Nat × Nat) (e : Ending) : Prop := (p.1 = 0 ∧ e = .returned (.int .u64 (p.2 : Int))) ∨ (p.1 ≠ 0 ∧ e = .panicked (gaveS p.1))
theorem gsv_no {n m : Nat} {e : Ending} (h : n ≠ 0) (he : e = .panicked (gaveS n)) : GsV (n, m) e := Or.inr ⟨h, he⟩
theorem gsv14 : GsV (14, 0) (.panicked (gaveS 14)) := gsv_no (fun h => by cases h) rfl
theorem numL_lt8 {xs : List Int} (hb : Bd xs) (h : xs.length ≤ 8) : numL xs < 18446744073709551616 := by
  have h1 := numK_lt hb xs.length
  have h2 : 256 ^ xs.length ≤ 256 ^ 8 := Nat.pow_le_pow_right (by omega) h
  have h3 : (256 : Nat) ^ 8 = 18446744073709551616 := by decide
  unfold numL
  omega

theorem readK_cases' (k : Dk) (s : Nm) : (∃ f, look k.fs s = some f ∧ readK k s = (0, f.b)) ∨ (readK k s).2 = [] := by
  unfold readK
  split
  · exact Or.inr rfl
  · split
    · exact Or.inr rfl
    · split
      · exact Or.inr rfl
      · rename_i f hf; exact Or.inl ⟨f, hf, rfl⟩
theorem nm_neqT {a b : Nm} (h : ¬ a = b) : (a.toList == b.toList) = false := by
  rw [beq_eq_false_iff_ne, ByteArray.toList_eq, ByteArray.toList_eq]
  exact fun e => h (nm_ext e)
theorem nm_eqT (a : Nm) : (a.toList == a.toList) = true := by simp

set_option maxHeartbeats 2000000 in
theorem base_any (w : World) (F : Nat → Prop) (lb d most : Nat) (v : Value) (c : Ch) (dn : Bool) (k : Dk) (h : LD w F lb d most v c dn k) :
    Calls Tryz.prog 98 #[.pointer (some ⟨lb, 0, none⟩)] w fun e w' => GsV (baseR (readK k sBase)) e ∧ Below w.heap.size w w' := by
  have q0 := h.c0
  have hrd := read_any d F k sBase w h.D
  have hbd : Bd (readK k sBase).2 := by
    rcases readK_cases' k sBase with ⟨f, hl, e⟩ | e
    · rw [e]; dsimp only; exact (look_good h.D.good hl).2.2
    · rw [e]; exact Bd.nil
  obtain ⟨P, HP⟩ : ∃ P, Hid (readK k sBase = P) := ⟨_, rfl⟩
  rw [HP.out] at hrd hbd ⊢
  obtain ⟨en, xs⟩ := P
  dsimp only at hrd hbd
  have hrd2 : Calls Tryz.prog 38 #[.pointer (some ⟨d, 0, none⟩), .string ⟨#[98, 97, 115, 101]⟩] w fun e w' => ∃ a c', e = .returned (.tuple #[.slice a xs.length c', .int .i64 (en : Int)]) ∧ Rd w' a xs.length c' xs ∧ Below w.heap.size w w' := by
    refine hrd.mono ?_
    rintro e w' ⟨v, rfl, o, hb⟩
    obtain ⟨a, c', rfl, r⟩ := Rd.ofOwn o hbd
    exact ⟨a, c', rfl, r, hb⟩
  clear hrd
  unfold baseR
  dsimp only
  by_cases h7 : en = 7
  · subst h7
    rw [if_pos rfl]
    go_enter Tryz.func98, Tryz.ntmps98
    go_wp2_with (go_at_call 38; refine hrd2.mono ?_; rintro e w1 ⟨a, c', rfl, r, hb⟩)
    go_ret
    exact ⟨Or.inl ⟨rfl, rfl⟩, hb⟩
  · rw [if_neg h7]
    have e7 : ((en : Int) == 7) = false := by rw [beq_eq_false_iff_ne]; omega
    by_cases h0 : en = 0
    · subst h0
      rw [if_neg (by simp)]
      obtain ⟨N, HN⟩ : ∃ N, Hid (xs.length = N) := ⟨_, rfl⟩
      rw [HN.out] at hrd2 ⊢
      by_cases h12 : N = 12
      · subst h12
        rw [if_neg (by simp)]
        have hg8 : numL (xs.take 8) < 18446744073709551616 := numL_lt8 (hbd.take 8) (by rw [List.length_take]; omega)
        have hnum := fun w' a c' (hr : Rd w' a 12 c' xs) => number_any a 8 c' (xs.take 8) w' (hr.take4 (by omega)) (by omega)
        have hXb : Bd (baseL (numL (xs.take 8))) := by unfold baseL; exact (bigL_bd _ _).append (bigL_bd _ _)
        obtain ⟨g, Hg⟩ : ∃ g, Hid (numL (xs.take 8) = g) := ⟨_, rfl⟩
        simp only [Hg.out] at hnum
        rw [Hg.out] at hg8 hXb ⊢
        have hbf := fun w' => baseForm_any g w'
        have hbl := baseL_len g
        by_cases hg0 : 0 < g
        · have hz1 : (0 : Int) < (g : Int) := by omega
          by_cases hxe : xs = baseL g
          · rw [if_pos ⟨hg0, hxe⟩]
            have hde : decide (xs = baseL g) = true := decide_eq_true hxe
            clear hxe h7
            go_enter Tryz.func98, Tryz.ntmps98
            go_wp2_with (first
              | (go_at_call 38; refine hrd2.mono ?_; rintro e w1 ⟨a, c', rfl, r, hb⟩; have hcc : (8 : Int) ≤ (c' : Int) := (by have := r.cap; omega))
              | (go_at_call 130; refine (hnum w1 a c' r).mono ?_; rintro e w2 ⟨rfl, h2⟩; replace h2 := h2.symm; subst h2)
              | (go_at_call 114; refine (hbf w1).mono ?_; rintro e w3 ⟨v3, rfl, o3, hb3⟩; obtain ⟨a3, c3, rfl, r3⟩ := Rd.ofOwn o3 hXb)
              | (go_at_call 131; refine (bequal_any a 12 c' xs a3 12 c3 (baseL g) w3 (r.carry (Nat.le_refl _) hb3) r3).mono ?_; rw [hde]; rintro e w4 ⟨rfl, h4⟩; replace h4 := h4.symm; subst h4)
              | (go_at_call 129; refine (sask_ok _ _).mono ?_; rintro e w5 ⟨rfl, h5⟩; replace h5 := h5.symm; subst h5))
            go_ret
            exact ⟨Or.inl ⟨rfl, rfl⟩, hb.trans (hb3.mono hb.size)⟩
          · rw [if_neg (fun e => hxe e.2)]
            have hde : decide (xs = baseL g) = false := decide_eq_false hxe
            clear hxe h7
            have tk1 : True := trivial
            have tk2 : True := trivial
            go_enter Tryz.func98, Tryz.ntmps98
            go_wp2_with (first
              | (go_at_call 38; refine hrd2.mono ?_; rintro e w1 ⟨a, c', rfl, r, hb⟩; have hcc : (8 : Int) ≤ (c' : Int) := (by have := r.cap; omega))
              | (go_at_call 130; refine (hnum w1 a c' r).mono ?_; rintro e w2 ⟨rfl, h2⟩; replace h2 := h2.symm; subst h2)
              | (go_at_call 114; refine (hbf w1).mono ?_; rintro e w3 ⟨v3, rfl, o3, hb3⟩; obtain ⟨a3, c3, rfl, r3⟩ := Rd.ofOwn o3 hXb)
              | (go_at_call 131; refine (bequal_any a 12 c' xs a3 12 c3 (baseL g) w3 (r.carry (Nat.le_refl _) hb3) r3).mono ?_; rw [hde]; rintro e w4 ⟨rfl, h4⟩; replace h4 := h4.symm; subst h4)
              | (clear tk1; go_at_call 129; refine (sask_ok 0 _).mono ?_; rintro e w5 ⟨rfl, h5⟩; replace h5 := h5.symm; subst h5)
              | (clear tk2; go_at_call 129; refine (sask_ok 14 _).mono ?_; rintro e w5 ⟨rfl, h5⟩; replace h5 := h5.symm; subst h5)
              | (go_at_call 129; refine (sask_no 14 _).mono ?_; rintro e w5 ⟨rfl, h5⟩; replace h5 := h5.symm; subst h5))
            exact ⟨rfl, gsv14, hb.trans (hb3.mono hb.size)⟩
        · obtain rfl : g = 0 := by omega
          rw [if_neg (fun e => hg0 e.1)]
          clear h7
          have tk1 : True := trivial
          have tk2 : True := trivial
          go_enter Tryz.func98, Tryz.ntmps98
          go_wp2_with (first
            | (go_at_call 38; refine hrd2.mono ?_; rintro e w1 ⟨a, c', rfl, r, hb⟩; have hcc : (8 : Int) ≤ (c' : Int) := (by have := r.cap; omega))
            | (go_at_call 130; refine (hnum w1 a c' r).mono ?_; rintro e w2 ⟨rfl, h2⟩; replace h2 := h2.symm; subst h2)
            | (clear tk1; go_at_call 129; refine (sask_ok 0 _).mono ?_; rintro e w5 ⟨rfl, h5⟩; replace h5 := h5.symm; subst h5)
            | (clear tk2; go_at_call 129; refine (sask_ok 14 _).mono ?_; rintro e w5 ⟨rfl, h5⟩; replace h5 := h5.symm; subst h5)
            | (go_at_call 129; refine (sask_no 14 _).mono ?_; rintro e w5 ⟨rfl, h5⟩; replace h5 := h5.symm; subst h5))
          exact ⟨rfl, gsv14, hb⟩
      · rw [if_pos h12]
        have e12 : ((N : Int) == 12) = false := by rw [beq_eq_false_iff_ne]; omega
        clear h7
        have tk1 : True := trivial
        go_enter Tryz.func98, Tryz.ntmps98
        go_wp2_with (first
          | (go_at_call 38; refine hrd2.mono ?_; rintro e w1 ⟨a, c', rfl, r, hb⟩)
          | (clear tk1; go_at_call 129; refine (sask_ok 0 _).mono ?_; rintro e w5 ⟨rfl, h5⟩; replace h5 := h5.symm; subst h5)
          | (go_at_call 129; refine (sask_no 14 _).mono ?_; rintro e w5 ⟨rfl, h5⟩; replace h5 := h5.symm; subst h5))
        exact ⟨rfl, gsv14, hb⟩
    · rw [if_pos h0]
      have e0 : ((en : Int) == 0) = false := by rw [beq_eq_false_iff_ne]; omega
      go_enter Tryz.func98, Tryz.ntmps98
      go_wp2_with (first
        | (go_at_call 38; refine hrd2.mono ?_; rintro e w1 ⟨a, c', rfl, r, hb⟩)
        | (go_at_call 129; refine (sask_no en _).mono ?_; rintro e w5 ⟨rfl, h5⟩; replace h5 := h5.symm; subst h5))
      exact ⟨rfl, gsv_no h0 rfl, hb⟩

/-- A file of logs. -/
def isOf (s : Nm) : Bool := decide (s = sNew) || Lib.hasPrefix s.data.toList sLog.data.toList
theorem sNewL : sNew.toList = [98, 97, 115, 101, 46, 110, 101, 119] := by rw [ByteArray.toList_eq]; rfl
theorem isOf_any (s : Nm) (w : World) : Calls Tryz.prog 133 #[.string s] w fun e w' => e = .returned (.bool (isOf s)) ∧ w' = w := by
  have hp : ∀ w, Calls Tryz.prog 151 #[.string s, .string ⟨#[108, 111, 103, 45]⟩] w fun e w' => e = .returned (.bool (Lib.hasPrefix s.data.toList sLog.data.toList)) ∧ w' = w := fun w => Any.strings_HasPrefix Tryz.lays99 s sLog w
  unfold isOf
  obtain ⟨b, Hb⟩ : ∃ b, Hid (Lib.hasPrefix s.data.toList sLog.data.toList = b) := ⟨_, rfl⟩
  simp only [Hb.out] at hp ⊢
  by_cases h : s = sNew
  · rw [decide_eq_true h, Bool.true_or]
    rw [h] at hp ⊢
    clear h Hb
    have hq : (sNew.toList == [98, 97, 115, 101, 46, 110, 101, 119]) = true := by rw [← sNewL]; exact nm_eqT _
    go_enter Tryz.func133, Tryz.ntmps133
    go_wp2
    go_ret
    exact ⟨rfl, rfl⟩
  · rw [decide_eq_false h, Bool.false_or]
    have hq : (s.toList == [98, 97, 115, 101, 46, 110, 101, 119]) = false := by rw [← sNewL]; exact nm_neqT h
    go_enter Tryz.func133, Tryz.ntmps133
    go_wp2_with (go_at_call 151; refine (hp _).mono ?_; rintro e w1 ⟨rfl, h1⟩; replace h1 := h1.symm; subst h1)
    go_ret
    exact ⟨rfl, rfl⟩

end Go.Proofs.YtikkieaokfailaaGreatDoor
