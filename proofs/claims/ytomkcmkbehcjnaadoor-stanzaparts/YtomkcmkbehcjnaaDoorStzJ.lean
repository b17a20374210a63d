/- The reading of a stanza. -/
import Derived.Test.YtomkcmkbehcjnaaDoorStzI
namespace Go.Proofs.YtomkcmkbehcjnaaDoor
open Go.RowKit

/-- A stanza's parts. -/
structure Sz where
  A : ByteArray
  B : ByteArray
  T : ByteArray
  L : List ByteArray
  N : Int
  F : Nat
def sz0 : Sz := ⟨⟨#[]⟩, ⟨#[]⟩, ⟨#[]⟩, [], 0, 0⟩
def Sz.bits (z : Sz) : List Bool := tbits z.A z.B z.T z.L.length z.N z.F

/-- One part, read. -/
def rdPart : Nat → Sz → List Int → Sz × List Int × Nat
  | 0, z, X => (⟨tN X 1024, z.B, z.T, z.L, z.N, z.F⟩, X.drop (tlen X), terr X 1024)
  | 1, z, X => (⟨z.A, tN X 1024, z.T, z.L, z.N, z.F⟩, X.drop (tlen X), terr X 1024)
  | 2, z, X => (⟨z.A, z.B, tN X 1024, z.L, z.N, z.F⟩, X.drop (tlen X), terr X 1024)
  | 3, z, X => (⟨z.A, z.B, z.T, (rdList X).1, z.N, z.F⟩, (rdList X).2.1, (rdList X).2.2)
  | 4, z, X => (⟨z.A, z.B, z.T, z.L, unfv (scan X 0 0).1, z.F⟩, X.drop (scan X 0 0).2.1, (scan X 0 0).2.2)
  | _, z, X => (⟨z.A, z.B, z.T, z.L, z.N, fN X⟩, X.drop 8, fE X)
/-- One part, if it is said to be there. -/
def rdStep (h : Bool) (k : Nat) (z : Sz) (X : List Int) : Sz × List Int × Nat :=
  if h = true then (if (rdPart k z X).2.2 ≠ 0 then rdPart k z X else if (rdPart k z X).1.bits.getD k false = true then rdPart k z X else ((rdPart k z X).1, (rdPart k z X).2.1, 2)) else (z, X, 0)
def hbit (x : Int) (k : Nat) : Bool := bits .and .u8 x ((2 ^ k : Nat) : Int) != 0
/-- The parts from number k on, m of them. -/
def rdFrom (x : Int) : Nat → Nat → Sz → List Int → Sz × List Int × Nat
  | 0, _, z, X => (z, X, 0)
  | m + 1, k, z, X => if (rdStep (hbit x k) k z X).2.2 ≠ 0 then rdStep (hbit x k) k z X else rdFrom x m (k + 1) (rdStep (hbit x k) k z X).1 (rdStep (hbit x k) k z X).2.1

theorem rdFrom_no {x : Int} {m k : Nat} {z : Sz} {X : List Int} (h : hbit x k = false) : rdFrom x (m + 1) k z X = rdFrom x m (k + 1) z X := by
  rw [rdFrom, h]; rfl
theorem rdFrom_err {x : Int} {m k : Nat} {z : Sz} {X : List Int} (h : hbit x k = true) (hE : (rdPart k z X).2.2 ≠ 0) : rdFrom x (m + 1) k z X = rdPart k z X := by
  have e : rdStep (hbit x k) k z X = rdPart k z X := by unfold rdStep; rw [if_pos h, if_pos hE]
  rw [rdFrom, e, if_pos hE]
theorem rdFrom_void {x : Int} {m k : Nat} {z : Sz} {X : List Int} (h : hbit x k = true) (hE : (rdPart k z X).2.2 = 0) (hb : (rdPart k z X).1.bits.getD k false = false) : rdFrom x (m + 1) k z X = ((rdPart k z X).1, (rdPart k z X).2.1, 2) := by
  have e : rdStep (hbit x k) k z X = ((rdPart k z X).1, (rdPart k z X).2.1, 2) := by unfold rdStep; rw [if_pos h, if_neg (by omega), if_neg (by rw [hb]; decide)]
  rw [rdFrom, e, if_pos (by simp)]
theorem rdFrom_go {x : Int} {m k : Nat} {z : Sz} {X : List Int} (h : hbit x k = true) (hE : (rdPart k z X).2.2 = 0) (hb : (rdPart k z X).1.bits.getD k false = true) : rdFrom x (m + 1) k z X = rdFrom x m (k + 1) (rdPart k z X).1 (rdPart k z X).2.1 := by
  have e : rdStep (hbit x k) k z X = rdPart k z X := by unfold rdStep; rw [if_pos h, if_neg (by omega), if_pos hb]
  rw [rdFrom, e, if_neg (by omega)]

/-- A whole stanza: its kind, its number, its parts, the error. -/
def rdSt (X : List Int) : Nat × Nat × Sz × Nat :=
  let K := (scan X 0 0).1
  let X1 := X.drop (scan X 0 0).2.1
  let X2 := X1.drop (scan X1 0 0).2.1
  let p := rdFrom (X2.getD 0 0) 6 0 sz0 (X2.drop 1)
  if kerr K (scan X 0 0).2.2 ≠ 0 then (0, 0, sz0, kerr K (scan X 0 0).2.2)
  else if (scan X1 0 0).2.2 ≠ 0 then (0, 0, sz0, (scan X1 0 0).2.2)
  else if herr K X2 ≠ 0 then (0, 0, sz0, herr K X2)
  else if p.2.2 ≠ 0 then (0, 0, sz0, p.2.2)
  else if p.2.1.length ≠ 0 then (0, 0, sz0, 2)
  else (K, (scan X1 0 0).1, p.1, 0)

/-- A list of strings: none, or a row of its own from B on. -/
def LO (w : World) (B : Nat) (la : Option Addr) (ln lc : Nat) (l : List ByteArray) : Prop :=
  (∀ s ∈ l, s.size ≤ 1024) ∧ ((la = none ∧ ln = 0 ∧ lc = 0 ∧ l = []) ∨ ∃ g, la = some ⟨g, 0, none⟩ ∧ B ≤ g ∧ g < w.heap.size ∧ lc = ln ∧ ln ≤ 64 ∧ Ls w g ln l)
theorem LO.keep {S : Nat → Prop} {w w' : World} {B : Nat} {la : Option Addr} {ln lc : Nat} {l : List ByteArray} (h : LO w B la ln lc l) (k : Keep S w w') (hs : ∀ g, B ≤ g → la = some ⟨g, 0, none⟩ → ¬ S g) : LO w' B la ln lc l := by
  refine ⟨h.1, h.2.imp id ?_⟩
  rintro ⟨g, e, h1, h2, h3, h4, h5⟩
  exact ⟨g, e, h1, Nat.lt_of_lt_of_le h2 k.size, h3, h4, h5.keep k h2 (hs g h1 e)⟩
theorem LO.len {w : World} {B : Nat} {la : Option Addr} {ln lc : Nat} {l : List ByteArray} (h : LO w B la ln lc l) : l.length = ln := by
  rcases h.2 with ⟨_, rfl, _, rfl⟩ | ⟨g, _, _, _, _, _, h⟩
  · rfl
  · exact h.len
theorem LO.srd {w : World} {B : Nat} {la : Option Addr} {ln lc : Nat} {l : List ByteArray} (h : LO w B la ln lc l) : SRd w la ln lc l := by
  rcases h.2 with ⟨rfl, rfl, rfl, rfl⟩ | ⟨g, rfl, _, _, rfl, h64, hl⟩
  · exact srd_nil w
  · exact hl.srd (by omega) (fun s hs => by have := h.1 s hs; omega)

theorem tN_size (X : List Int) : (tN X 1024).size ≤ 1024 := by
  unfold tN
  split
  · rename_i h
    have := terr_ok h
    have e : (strOfNums ((X.drop (scan X 0 0).2.1).take (scan X 0 0).1)).size = ((X.drop (scan X 0 0).2.1).take (scan X 0 0).1).length := by simp [strOfNums, ByteArray.size]
    rw [e, List.length_take]; omega
  · exact Nat.zero_le _
theorem rdTexts_size : ∀ (m : Nat) (X : List Int), ∀ s ∈ (rdTexts m X).1, s.size ≤ 1024
  | 0, _, s, hs => by cases hs
  | m + 1, X, s, hs => by
    rw [rdTexts] at hs
    split at hs
    · cases hs
    · rcases List.mem_cons.1 hs with rfl | g
      · exact tN_size X
      · exact rdTexts_size m _ s g
theorem rdList_size (X : List Int) : ∀ s ∈ (rdList X).1, s.size ≤ 1024 := by
  intro s hs
  unfold rdList at hs
  split at hs
  · cases hs
  · split at hs
    · cases hs
    · exact rdTexts_size _ _ s hs

section
variable {w w' : World} {b : Nat} {K : Int} {I : Nat} {A B T : ByteArray} {la : Option Addr} {ln lc : Nat} {N : Int} {F : Nat}
theorem Sz8.sz (h : Sz8 w b [.int .i64 K, .int .u64 I, .string A, .string B, .string T, .slice la ln lc, .int .i64 N, .float .f64 F]) : SzAt w b K I A B T la ln lc N F :=
  ⟨h.cell 0 (by omega), h.cell 1 (by omega), h.cell 2 (by omega), h.cell 3 (by omega), h.cell 4 (by omega), h.cell 5 (by omega), h.cell 6 (by omega), h.cell 7 (by omega)⟩
end

end Go.Proofs.YtomkcmkbehcjnaaDoor
