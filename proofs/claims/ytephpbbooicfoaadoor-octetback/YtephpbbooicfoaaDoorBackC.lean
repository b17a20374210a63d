/- What the readers answer, as the laws use it. -/
import Derived.Test.YtephpbbooicfoaaDoorBackM
import Derived.Test.YtephpbbooicfoaaDoorReadT
import Derived.Test.YtephpbbooicfoaaDoorRs
namespace Go.Proofs.YtephpbbooicfoaaDoor
open Go.RowKit

theorem ownR {w w' : World} {v : Value} {M : Nat} {Z : List Int} (hZ : Bd Z) (h : w'.ownsRow w.heap.size 5 1 v M (bc Z)) : ∃ a' n' c', v = .slice a' n' c' ∧ Rd w' a' n' c' Z := by
  obtain ⟨a1, c1, rfl, hr1⟩ := Rd.ofOwn h hZ
  exact ⟨a1, _, c1, rfl, hr1⟩

theorem uintPut (N : Nat) (hN : N < 18446744073709551616) (a : Option Addr) (n c : Nat) (X : List Int) (w : World) (hR : Rd w a n c (form N ++ X)) (hn : n ≤ 1000000) :
    Calls Tryd.prog 7 #[.slice a n c] w fun e w' => ∃ a' n' c', e = .returned (.tuple #[.int .u64 N, .slice a' n' c', .int .i64 0]) ∧ Rd w' a' n' c' X ∧ Ext w w' := by
  have H := uint_any a n c _ w hR hn
  rw [scan_put X N hN] at H
  refine H.mono ?_
  rintro e w1 (⟨h, _⟩ | ⟨_, v, rfl, ho, hb⟩)
  · exact absurd rfl h
  · simp only [List.drop_left] at ho
    obtain ⟨a1, n1, c1, rfl, hr⟩ := ownR (fun x hx => hR.bytes x (List.mem_append_right _ hx)) ho
    exact ⟨a1, n1, c1, rfl, hr, hb⟩

theorem intPut (I : Int) (h0 : -9223372036854775808 ≤ I) (h1 : I ≤ 9223372036854775807) (a : Option Addr) (n c : Nat) (X : List Int) (w : World) (hR : Rd w a n c (form (foldv I) ++ X)) (hn : n ≤ 1000000) :
    Calls Tryd.prog 9 #[.slice a n c] w fun e w' => ∃ a' n' c', e = .returned (.tuple #[.int .i64 I, .slice a' n' c', .int .i64 0]) ∧ Rd w' a' n' c' X ∧ Ext w w' := by
  have H := int_any a n c _ w hR hn
  rw [scan_put X _ (fold_lt I h0 h1)] at H
  refine H.mono ?_
  rintro e w1 (⟨h, _⟩ | ⟨_, v, rfl, ho, hb⟩)
  · exact absurd rfl h
  · simp only [List.drop_left] at ho
    obtain ⟨a1, n1, c1, rfl, hr⟩ := ownR (fun x hx => hR.bytes x (List.mem_append_right _ hx)) ho
    exact ⟨a1, n1, c1, by rw [unf_fold], hr, hb⟩

theorem floatPut (F : Nat) (hF : F < 18446744073709551616) (a : Option Addr) (n c : Nat) (X : List Int) (w : World) (hR : Rd w a n c (fbl (bitsv F) 8 ++ X)) (hn : n ≤ 1000000) :
    Calls Tryd.prog 11 #[.slice a n c] w fun e w' => ∃ a' n' c', e = .returned (.tuple #[.float .f64 (bitsv F), .slice a' n' c', .int .i64 0]) ∧ Rd w' a' n' c' X ∧ Ext w w' := by
  have H := float_any a n c _ w hR hn
  rw [fbad_put F hF X, fv_fbl _ (bitsv_lt F hF)] at H
  refine H.mono ?_
  rintro e w1 (⟨h, _⟩ | ⟨_, v, rfl, ho, hb⟩)
  · cases h
  · have e8 : (fbl (bitsv F) 8 ++ X).drop 8 = X := by
      have := List.drop_left (l₁ := fbl (bitsv F) 8) (l₂ := X)
      rwa [fbl_len] at this
    rw [e8] at ho
    obtain ⟨a1, n1, c1, rfl, hr⟩ := ownR (fun x hx => hR.bytes x (List.mem_append_right _ hx)) ho
    exact ⟨a1, n1, c1, rfl, hr, hb⟩

/-- A reader's answer: an error, or what was read and a rest that make up the bytes. -/
theorem uintAny (a : Option Addr) (n c : Nat) (X : List Int) (w : World) (hR : Rd w a n c X) (hn : n ≤ 1000000) :
    Calls Tryd.prog 7 #[.slice a n c] w fun e w' => ∃ q a' n' c' E R, e = .returned (.tuple #[.int .u64 ((q : Nat) : Int), .slice a' n' c', .int .i64 ((E : Nat) : Int)]) ∧ q < 18446744073709551616 ∧ Rd w' a' n' c' R ∧ (E = 0 → form q ++ R = X) ∧ Ext w w' := by
  have hlt := scan_lt X 0 0 hR.bytes (by omega) (by decide)
  refine (uint_any a n c _ w hR hn).mono ?_
  rintro e w1 (⟨h, rfl, rfl⟩ | ⟨h, v, rfl, ho, hb⟩)
  · exact ⟨0, none, 0, 0, (scan X 0 0).2.2, [], rfl, by omega, rd_nil _, fun g => absurd g h, Ext.refl _⟩
  · obtain ⟨a1, n1, c1, rfl, hr⟩ := ownR (hR.bytes.drop _) ho
    exact ⟨_, a1, n1, c1, 0, _, rfl, hlt, hr, fun _ => scan_whole X hR.bytes h, hb⟩

theorem floatAny (a : Option Addr) (n c : Nat) (X : List Int) (w : World) (hR : Rd w a n c X) (hn : n ≤ 1000000) :
    Calls Tryd.prog 11 #[.slice a n c] w fun e w' => ∃ q a' n' c' E R, e = .returned (.tuple #[.float .f64 q, .slice a' n' c', .int .i64 ((E : Nat) : Int)]) ∧ q < 18446744073709551616 ∧ Rd w' a' n' c' R ∧ (E = 0 → fbl (bitsv q) 8 ++ R = X) ∧ Ext w w' := by
  have hlt := fv_lt8 hR.bytes (Nat.le_refl 8)
  refine (float_any a n c _ w hR hn).mono ?_
  rintro e w1 (⟨h, rfl, hb⟩ | ⟨h, v, rfl, ho, hb⟩)
  · exact ⟨0, none, 0, 0, 2, [], rfl, by omega, rd_nil _, (fun g => by cases g), hb⟩
  · obtain ⟨a1, n1, c1, rfl, hr⟩ := ownR (hR.bytes.drop _) ho
    exact ⟨_, a1, n1, c1, 0, _, rfl, hlt, hr, fun _ => float_whole hR.bytes h, hb⟩

theorem textAny (a : Option Addr) (n c : Nat) (X : List Int) (most : Int) (w : World) (hR : Rd w a n c X) (hT : Tabs w) (hn : n ≤ 2000) (hm0 : -9223372036854775808 ≤ most) (hm1 : most ≤ 9223372036854775807) :
    Calls Tryd.prog 14 #[.slice a n c, .int .i64 most] w fun e w' => ∃ T a' n' c' E R, e = .returned (.tuple #[.string T, .slice a' n' c', .int .i64 ((E : Nat) : Int)]) ∧ T.size ≤ 2000 ∧ Rd w' a' n' c' R ∧ (E = 0 → form T.size ++ nums T ++ R = X) ∧ Ext w w' := by
  refine (text_read a n c _ most w hR hT (by omega) hm0 hm1).mono ?_
  rintro e w1 (⟨h, rfl, hb⟩ | ⟨h, v, rfl, ho, hb⟩)
  · exact ⟨⟨#[]⟩, none, 0, 0, terr X most, [], rfl, by decide, rd_nil _, fun g => absurd g h, hb⟩
  · have hl := hR.len
    have hs0 : (scan X 0 0).2.2 = 0 := by
      unfold terr at h; split at h
      · exact h
      · rename_i g; simpa using g
    have hp : (scan X 0 0).1 ≤ X.length - (scan X 0 0).2.1 := by
      unfold terr at h; rw [if_neg (by simpa using hs0)] at h
      split at h
      · cases h
      · split at h
        · cases h
        · omega
    have hwhole := scan_whole X hR.bytes hs0
    generalize (scan X 0 0).1 = p at *
    generalize (scan X 0 0).2.1 = s at *
    obtain ⟨a1, n1, c1, rfl, hr⟩ := ownR ((hR.bytes.drop _).drop _) ho
    have hsz : (strOfNums ((X.drop s).take p)).size = p := by rw [strOfNums_size, List.length_take, List.length_drop]; omega
    refine ⟨_, a1, n1, c1, 0, _, rfl, by omega, hr, fun _ => ?_, hb⟩
    rw [hsz, nums_str ((hR.bytes.drop s).take p), List.append_assoc, List.take_append_drop]
    exact hwhole

end Go.Proofs.YtephpbbooicfoaaDoor
