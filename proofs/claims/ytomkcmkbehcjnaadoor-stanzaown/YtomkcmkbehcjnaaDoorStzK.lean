/- The reading of a stanza. -/
import Derived.Test.YtomkcmkbehcjnaaDoorStzG
namespace Go.Proofs.YtomkcmkbehcjnaaDoor
open Go.RowKit

/-- A stanza's parts. -/
structure Sz where
  A : ByteArray
  B : ByteArray
  T : ByteArray
  L : List ByteArray
  N : Int
  F : Nat
def sz0 : Sz := ⟨⟨#[]⟩, ⟨#[]⟩, ⟨#[]⟩, [], 0, 0⟩
def Sz.bits (z : Sz) : List Bool := tbits z.A z.B z.T z.L.length z.N z.F

/-- One part, read. -/
def rdPart : Nat → Sz → List Int → Sz × List Int × Nat
  | 0, z, X => (⟨tN X 1024, z.B, z.T, z.L, z.N, z.F⟩, X.drop (tlen X), terr X 1024)
  | 1, z, X => (⟨z.A, tN X 1024, z.T, z.L, z.N, z.F⟩, X.drop (tlen X), terr X 1024)
  | 2, z, X => (⟨z.A, z.B, tN X 1024, z.L, z.N, z.F⟩, X.drop (tlen X), terr X 1024)
  | 3, z, X => (⟨z.A, z.B, z.T, (rdList X).1, z.N, z.F⟩, (rdList X).2.1, (rdList X).2.2)
  | 4, z, X => (⟨z.A, z.B, z.T, z.L, unfv (scan X 0 0).1, z.F⟩, X.drop (scan X 0 0).2.1, (scan X 0 0).2.2)
  | _, z, X => (⟨z.A, z.B, z.T, z.L, z.N, fN X⟩, X.drop 8, fE X)
/-- One part, if it is said to be there. -/
def rdStep (h : Bool) (k : Nat) (z : Sz) (X : List Int) : Sz × List Int × Nat :=
  if h = true then (if (rdPart k z X).2.2 ≠ 0 then rdPart k z X else if (rdPart k z X).1.bits.getD k false = true then rdPart k z X else ((rdPart k z X).1, (rdPart k z X).2.1, 2)) else (z, X, 0)
def hbit (x : Int) (k : Nat) : Bool := bits .and .u8 x ((2 ^ k : Nat) : Int) != 0
/-- The parts from number k on, m of them. -/
def rdFrom (x : Int) : Nat → Nat → Sz → List Int → Sz × List Int × Nat
  | 0, _, z, X => (z, X, 0)
  | m + 1, k, z, X => if (rdStep (hbit x k) k z X).2.2 ≠ 0 then rdStep (hbit x k) k z X else rdFrom x m (k + 1) (rdStep (hbit x k) k z X).1 (rdStep (hbit x k) k z X).2.1

theorem rdFrom_no {x : Int} {m k : Nat} {z : Sz} {X : List Int} (h : hbit x k = false) : rdFrom x (m + 1) k z X = rdFrom x m (k + 1) z X := by
  rw [rdFrom, h]; rfl
theorem rdFrom_err {x : Int} {m k : Nat} {z : Sz} {X : List Int} (h : hbit x k = true) (hE : (rdPart k z X).2.2 ≠ 0) : rdFrom x (m + 1) k z X = rdPart k z X := by
  have e : rdStep (hbit x k) k z X = rdPart k z X := by unfold rdStep; rw [if_pos h, if_pos hE]
  rw [rdFrom, e, if_pos hE]
theorem rdFrom_void {x : Int} {m k : Nat} {z : Sz} {X : List Int} (h : hbit x k = true) (hE : (rdPart k z X).2.2 = 0) (hb : (rdPart k z X).1.bits.getD k false = false) : rdFrom x (m + 1) k z X = ((rdPart k z X).1, (rdPart k z X).2.1, 2) := by
  have e : rdStep (hbit x k) k z X = ((rdPart k z X).1, (rdPart k z X).2.1, 2) := by unfold rdStep; rw [if_pos h, if_neg (by omega), if_neg (by rw [hb]; decide)]
  rw [rdFrom, e, if_pos (by simp)]
theorem rdFrom_go {x : Int} {m k : Nat} {z : Sz} {X : List Int} (h : hbit x k = true) (hE : (rdPart k z X).2.2 = 0) (hb : (rdPart k z X).1.bits.getD k false = true) : rdFrom x (m + 1) k z X = rdFrom x m (k + 1) (rdPart k z X).1 (rdPart k z X).2.1 := by
  have e : rdStep (hbit x k) k z X = rdPart k z X := by unfold rdStep; rw [if_pos h, if_neg (by omega), if_pos hb]
  rw [rdFrom, e, if_neg (by omega)]

/-- A whole stanza: its kind, its number, its parts, the error. -/
def rdSt (X : List Int) : Nat × Nat × Sz × Nat :=
  let K := (scan X 0 0).1
  let X1 := X.drop (scan X 0 0).2.1
  let X2 := X1.drop (scan X1 0 0).2.1
  let p := rdFrom (X2.getD 0 0) 6 0 sz0 (X2.drop 1)
  if kerr K (scan X 0 0).2.2 ≠ 0 then (0, 0, sz0, kerr K (scan X 0 0).2.2)
  else if (scan X1 0 0).2.2 ≠ 0 then (0, 0, sz0, (scan X1 0 0).2.2)
  else if herr K X2 ≠ 0 then (0, 0, sz0, herr K X2)
  else if p.2.2 ≠ 0 then (0, 0, sz0, p.2.2)
  else if p.2.1.length ≠ 0 then (0, 0, sz0, 2)
  else (K, (scan X1 0 0).1, p.1, 0)

/-- A list of strings: none, or a row of its own from B on. -/
def LO (w : World) (B : Nat) (la : Option Addr) (ln lc : Nat) (l : List ByteArray) : Prop :=
  (∀ s ∈ l, s.size ≤ 1024) ∧ ((la = none ∧ ln = 0 ∧ lc = 0 ∧ l = []) ∨ ∃ g, la = some ⟨g, 0, none⟩ ∧ B ≤ g ∧ g < w.heap.size ∧ lc = ln ∧ ln ≤ 64 ∧ Ls w g ln l)
theorem LO.keep {S : Nat → Prop} {w w' : World} {B : Nat} {la : Option Addr} {ln lc : Nat} {l : List ByteArray} (h : LO w B la ln lc l) (k : Keep S w w') (hs : ∀ g, B ≤ g → la = some ⟨g, 0, none⟩ → ¬ S g) : LO w' B la ln lc l := by
  refine ⟨h.1, h.2.imp id ?_⟩
  rintro ⟨g, e, h1, h2, h3, h4, h5⟩
  exact ⟨g, e, h1, Nat.lt_of_lt_of_le h2 k.size, h3, h4, h5.keep k h2 (hs g h1 e)⟩
theorem LO.len {w : World} {B : Nat} {la : Option Addr} {ln lc : Nat} {l : List ByteArray} (h : LO w B la ln lc l) : l.length = ln := by
  rcases h.2 with ⟨_, rfl, _, rfl⟩ | ⟨g, _, _, _, _, _, h⟩
  · rfl
  · exact h.len
theorem LO.srd {w : World} {B : Nat} {la : Option Addr} {ln lc : Nat} {l : List ByteArray} (h : LO w B la ln lc l) : SRd w la ln lc l := by
  rcases h.2 with ⟨rfl, rfl, rfl, rfl⟩ | ⟨g, rfl, _, _, rfl, h64, hl⟩
  · exact srd_nil w
  · exact hl.srd (by omega) (fun s hs => by have := h.1 s hs; omega)

theorem tN_size (X : List Int) : (tN X 1024).size ≤ 1024 := by
  unfold tN
  split
  · rename_i h
    have := terr_ok h
    have e : (strOfNums ((X.drop (scan X 0 0).2.1).take (scan X 0 0).1)).size = ((X.drop (scan X 0 0).2.1).take (scan X 0 0).1).length := by simp [strOfNums, ByteArray.size]
    rw [e, List.length_take]; omega
  · exact Nat.zero_le _
theorem rdTexts_size : ∀ (m : Nat) (X : List Int), ∀ s ∈ (rdTexts m X).1, s.size ≤ 1024
  | 0, _, s, hs => by cases hs
  | m + 1, X, s, hs => by
    rw [rdTexts] at hs
    split at hs
    · cases hs
    · rcases List.mem_cons.1 hs with rfl | g
      · exact tN_size X
      · exact rdTexts_size m _ s g
theorem rdList_size (X : List Int) : ∀ s ∈ (rdList X).1, s.size ≤ 1024 := by
  intro s hs
  unfold rdList at hs
  split at hs
  · cases hs
  · split at hs
    · cases hs
    · exact rdTexts_size _ _ s hs

section
variable {w w' : World} {b : Nat} {K : Int} {I : Nat} {A B T : ByteArray} {la : Option Addr} {ln lc : Nat} {N : Int} {F : Nat}
theorem Sz8.sz (h : Sz8 w b [.int .i64 K, .int .u64 I, .string A, .string B, .string T, .slice la ln lc, .int .i64 N, .float .f64 F]) : SzAt w b K I A B T la ln lc N F :=
  ⟨h.cell 0 (by omega), h.cell 1 (by omega), h.cell 2 (by omega), h.cell 3 (by omega), h.cell 4 (by omega), h.cell 5 (by omega), h.cell 6 (by omega), h.cell 7 (by omega)⟩
end

end Go.Proofs.YtomkcmkbehcjnaaDoor

/- The reader's walk over a whole stanza. -/
namespace Go.Proofs.YtomkcmkbehcjnaaDoor
open Go.RowKit

theorem out_at {w : World} {g : Nat} {cs : Array Value} {t : TypeId} {fr : Nat × Nat} (h : w.heap[g]? = some (.cells cs t fr)) (j : Nat) (hj : cs.size ≤ j) : w.cell? ⟨g, j, none⟩ = none := by simp [World.cell?, h, hj]
abbrev zcells : List Value := [.int .i64 0, .int .u64 0, .string ⟨#[]⟩, .string ⟨#[]⟩, .string ⟨#[]⟩, .slice none 0 0, .int .i64 0, .float .f64 0]
theorem Sz8.new (w : World) : Sz8 (w.alloc (.cells #[.int .i64 0, .int .u64 0, .string ⟨#[]⟩, .string ⟨#[]⟩, .string ⟨#[]⟩, .slice none 0 0, .int .i64 0, .float .f64 0] 26)) w.heap.size zcells := by
  have hh : (w.alloc (.cells #[.int .i64 0, .int .u64 0, .string ⟨#[]⟩, .string ⟨#[]⟩, .string ⟨#[]⟩, .slice none 0 0, .int .i64 0, .float .f64 0] 26)).heap[w.heap.size]? = some (.cells #[.int .i64 0, .int .u64 0, .string ⟨#[]⟩, .string ⟨#[]⟩, .string ⟨#[]⟩, .slice none 0 0, .int .i64 0, .float .f64 0] 26 (0, 0)) := by
    show (w.heap.push _)[w.heap.size]? = _
    simp
  refine ⟨rfl, fun j hj => ?_, fun j => ?_, fun j hj => out_at hh j hj⟩
  · match j, hj with
    | 0, _ => simp [zcells]
    | 1, _ => simp [zcells]
    | 2, _ => simp [zcells]
    | 3, _ => simp [zcells]
    | 4, _ => simp [zcells]
    | 5, _ => simp [zcells]
    | 6, _ => simp [zcells]
    | 7, _ => simp [zcells]
  · have : (w.alloc (.cells #[.int .i64 0, .int .u64 0, .string ⟨#[]⟩, .string ⟨#[]⟩, .string ⟨#[]⟩, .slice none 0 0, .int .i64 0, .float .f64 0] 26)).heap[w.heap.size]? = some (.cells #[.int .i64 0, .int .u64 0, .string ⟨#[]⟩, .string ⟨#[]⟩, .string ⟨#[]⟩, .slice none 0 0, .int .i64 0, .float .f64 0] 26 (0, 0)) := by
      show (w.heap.push _)[w.heap.size]? = _
      simp
    exact thaw_at this j

theorem RdAt.kp {S : Nat → Prop} {w w' : World} {r : Nat} {X : List Int} (h : RdAt w r X) (k : Keep S w w') (hr : ¬ S r) (ha : ∀ j, j < r → ¬ S j) : RdAt w' r X := by
  obtain ⟨a, n, c, h⟩ := h
  exact ⟨a, n, c, h.keep k hr ha⟩

/-- What the reading of a whole stanza leaves. -/
abbrev StP (p : Nat × Nat × Sz × Nat) (r : Nat) (w : World) (e : Ending) (w' : World) : Prop :=
  (p.2.2.2 ≠ 0 ∧ e = .panicked (gaveUp p.2.2.2) ∧ Keep (fun k => k = r) w w') ∨
  (p.2.2.2 = 0 ∧ ∃ la ln lc, e = .returned (.agg #[.int .i64 (p.1 : Int), .int .u64 (p.2.1 : Nat), .string p.2.2.1.A, .string p.2.2.1.B, .string p.2.2.1.T, .slice la ln lc, .int .i64 p.2.2.1.N, .float .f64 p.2.2.1.F]) ∧ LO w' (w.heap.size + 1) la ln lc p.2.2.1.L ∧ Keep (fun k => k = r) w w')

abbrev put8 (wr : World) (b : Nat) (K : Int) (I : Nat) (A B T : ByteArray) (la : Option Addr) (ln lc : Nat) (N : Int) (F : Nat) : World := ((((((((wr.setCell ⟨b, 0, none⟩ (.int .i64 K)).setCell ⟨b, 1, none⟩ (.int .u64 I)).setCell ⟨b, 2, none⟩ (.string A)).setCell ⟨b, 3, none⟩ (.string B)).setCell ⟨b, 4, none⟩ (.string T)).setCell ⟨b, 5, none⟩ (.slice la ln lc)).setCell ⟨b, 6, none⟩ (.int .i64 N)).setCell ⟨b, 7, none⟩ (.float .f64 F))
theorem store8 {wr : World} {b : Nat} {K : Int} {I : Nat} {A B T : ByteArray} {la : Option Addr} {ln lc : Nat} {N : Int} {F : Nat} {vs : List Value} (hz : Sz8 wr b vs) : Sz8 ((((((((wr.setCell ⟨b, 0, none⟩ (.int .i64 K)).setCell ⟨b, 1, none⟩ (.int .u64 I)).setCell ⟨b, 2, none⟩ (.string A)).setCell ⟨b, 3, none⟩ (.string B)).setCell ⟨b, 4, none⟩ (.string T)).setCell ⟨b, 5, none⟩ (.slice la ln lc)).setCell ⟨b, 6, none⟩ (.int .i64 N)).setCell ⟨b, 7, none⟩ (.float .f64 F)) b [.int .i64 K, .int .u64 I, .string A, .string B, .string T, .slice la ln lc, .int .i64 N, .float .f64 F] ∧ Keep (fun k => k = b) wr ((((((((wr.setCell ⟨b, 0, none⟩ (.int .i64 K)).setCell ⟨b, 1, none⟩ (.int .u64 I)).setCell ⟨b, 2, none⟩ (.string A)).setCell ⟨b, 3, none⟩ (.string B)).setCell ⟨b, 4, none⟩ (.string T)).setCell ⟨b, 5, none⟩ (.slice la ln lc)).setCell ⟨b, 6, none⟩ (.int .i64 N)).setCell ⟨b, 7, none⟩ (.float .f64 F)) := by
  refine ⟨?_, ?_⟩
  · have h := (((((((hz.set (i := 0) (by omega) (.int .i64 K)).set (i := 1) (by omega) (.int .u64 I)).set (i := 2) (by omega) (.string A)).set (i := 3) (by omega) (.string B)).set (i := 4) (by omega) (.string T)).set (i := 5) (by omega) (.slice la ln lc)).set (i := 6) (by omega) (.int .i64 N)).set (i := 7) (by omega) (.float .f64 F)
    have hl := hz.len
    match vs, hl with
    | [_, _, _, _, _, _, _, _], _ => exact h
  · have go : ∀ {u : World} (j : Nat) (v : Value), Keep (fun k => k = b) wr u → Keep (fun k => k = b) wr (u.setCell ⟨b, j, none⟩ v) := fun j v k => k.setCell (p := ⟨b, j, none⟩) (show (fun k => k = b) b from rfl) v
    exact go 7 _ (go 6 _ (go 5 _ (go 4 _ (go 3 _ (go 2 _ (go 1 _ (go 0 _ (Keep.refl _ _))))))))

theorem keep_new {w w' : World} {r : Nat} {o : Obj} (k : Keep (fun k => k = r ∨ k = w.heap.size) (w.alloc o) w') : Keep (fun k => k = r) w w' :=
  ((Keep.refl (fun k => k = r) w).alloc o).andThen k (fun i hi e => by omega)

theorem rdSt_kind {X : List Int} {N k E : Nat} (hs : scan X 0 0 = (N, k, E)) (h : kerr N E ≠ 0) : rdSt X = (0, 0, sz0, kerr N E) := by
  unfold rdSt; simp only [hs]; rw [if_pos h]
theorem rdSt_id {X : List Int} {N k E I k1 E1 : Nat} (hs : scan X 0 0 = (N, k, E)) (h : kerr N E = 0) (hs1 : scan (X.drop k) 0 0 = (I, k1, E1)) (h1 : E1 ≠ 0) : rdSt X = (0, 0, sz0, E1) := by
  unfold rdSt; simp only [hs, hs1]; rw [if_neg (by omega), if_pos h1]
theorem rdSt_has {X Y : List Int} {N k E I k1 : Nat} (hs : scan X 0 0 = (N, k, E)) (h : kerr N E = 0) (hs1 : scan (X.drop k) 0 0 = (I, k1, 0)) (hY : (X.drop k).drop k1 = Y) (h2 : herr N Y ≠ 0) : rdSt X = (0, 0, sz0, herr N Y) := by
  unfold rdSt; simp only [hs, hs1, hY]; rw [if_neg (by omega), if_neg (by simp), if_pos h2]
theorem rdSt_parts {X Y : List Int} {N k E I k1 : Nat} (hs : scan X 0 0 = (N, k, E)) (h : kerr N E = 0) (hs1 : scan (X.drop k) 0 0 = (I, k1, 0)) (hY : (X.drop k).drop k1 = Y) (h2 : herr N Y = 0) {z : Sz} {Z : List Int} {e : Nat} (hp : rdFrom (Y.getD 0 0) 6 0 sz0 (Y.drop 1) = (z, Z, e)) :
    rdSt X = if e ≠ 0 then (0, 0, sz0, e) else if Z.length ≠ 0 then (0, 0, sz0, 2) else (N, I, z, 0) := by
  unfold rdSt; simp only [hs, hs1, hY, hp]; rw [if_neg (by omega), if_neg (by simp), if_neg (by omega)]

theorem kerr_ok {N E : Nat} (h : kerr N E = 0) : N < 47 := by
  unfold kerr at h
  split at h
  · rename_i g; exact absurd h g
  · split at h
    · rename_i g; have := kn_bd g; omega
    · cases h
theorem not_zero {x : Int} {b : Bool} (h : (x != 0) = b) : (x == 0) = !b := by
  rw [← h]; simp [bne]

theorem andb0 (A B T : ByteArray) (n : Nat) (N : Int) (F : Nat) : (bits .and .u8 ((thr A B T n N F : Nat) : Int) 1 == 0) = !((tbits A B T n N F).getD 0 false) := not_zero (and_bit0 ..)
theorem andb1 (A B T : ByteArray) (n : Nat) (N : Int) (F : Nat) : (bits .and .u8 ((thr A B T n N F : Nat) : Int) 2 == 0) = !((tbits A B T n N F).getD 1 false) := not_zero (and_bit1 ..)
theorem andb2 (A B T : ByteArray) (n : Nat) (N : Int) (F : Nat) : (bits .and .u8 ((thr A B T n N F : Nat) : Int) 4 == 0) = !((tbits A B T n N F).getD 2 false) := not_zero (and_bit2 ..)
theorem andb3 (A B T : ByteArray) (n : Nat) (N : Int) (F : Nat) : (bits .and .u8 ((thr A B T n N F : Nat) : Int) 8 == 0) = !((tbits A B T n N F).getD 3 false) := not_zero (and_bit3 ..)
theorem andb4 (A B T : ByteArray) (n : Nat) (N : Int) (F : Nat) : (bits .and .u8 ((thr A B T n N F : Nat) : Int) 16 == 0) = !((tbits A B T n N F).getD 4 false) := not_zero (and_bit4 ..)
theorem andb5 (A B T : ByteArray) (n : Nat) (N : Int) (F : Nat) : (bits .and .u8 ((thr A B T n N F : Nat) : Int) 32 == 0) = !((tbits A B T n N F).getD 5 false) := not_zero (and_bit5 ..)

set_option maxHeartbeats 800000 in
theorem stanza_kind (r : Nat) (a : Option Addr) (n c : Nat) (X : List Int) (w : World) (h : RdA w r a n c X) (hL : Lays w) {N k E : Nat} (hs : scan X 0 0 = (N, k, E)) (hE : kerr N E ≠ 0) :
    Calls Tryd.prog 38 #[.pointer (some ⟨r, 0, none⟩)] w (StP (rdSt X) r w) := by
  have hz1 := Sz8.new w
  have hb1 : Below w.heap.size w (w.alloc (.cells #[.int .i64 0, .int .u64 0, .string ⟨#[]⟩, .string ⟨#[]⟩, .string ⟨#[]⟩, .slice none 0 0, .int .i64 0, .float .f64 0] 26)) := (Below.refl _ _).alloc (Nat.le_refl _) _
  have hrlt : r < w.heap.size := World.block_lt_of_cell? w _ h.cell
  have h1 := h.keep (Keep.ofBelow (S := fun _ => False) hb1) (fun h => h) (fun _ _ h => h)
  have hL1 := hL.carry hb1
  have HK : Hid (∀ w', Keep (fun k => k = r ∨ k = w.heap.size) (w.alloc (.cells #[.int .i64 0, .int .u64 0, .string ⟨#[]⟩, .string ⟨#[]⟩, .string ⟨#[]⟩, .slice none 0 0, .int .i64 0, .float .f64 0] 26)) w' → Keep (fun k => k = r) w w') := fun w' k => keep_new k
  have HR : Hid (rdSt X = (0, 0, sz0, kerr N E)) := rdSt_kind hs hE
  have cK := stp_bad hE (kind_any r a n c X _ h1 hs)
  clear hs
  generalize hW1 : w.alloc (.cells #[.int .i64 0, .int .u64 0, .string ⟨#[]⟩, .string ⟨#[]⟩, .string ⟨#[]⟩, .slice none 0 0, .int .i64 0, .float .f64 0] 26) = W1 at hz1 hb1 h1 hL1 HK cK
  have HW1 : Hid (w.alloc (.cells #[.int .i64 0, .int .u64 0, .string ⟨#[]⟩, .string ⟨#[]⟩, .string ⟨#[]⟩, .slice none 0 0, .int .i64 0, .float .f64 0] 26) = W1) := hW1
  clear hW1
  go_enter Tryd.func38, Tryd.ntmps38
  go_wp2_with (go_at_call 59; rw [HW1.out]; refine cK.mono ?_; rintro e w2 ⟨rfl, hk2⟩)
  refine ⟨rfl, .inl ?_⟩
  rw [HR.out]
  exact ⟨hE, rfl, HK.out _ (hk2.mono (fun j e => Or.inl e))⟩

set_option maxHeartbeats 800000 in
theorem stanza_id (r : Nat) (a : Option Addr) (n c : Nat) (X : List Int) (w : World) (h : RdA w r a n c X) (hL : Lays w) {N k E I k1 E1 : Nat} (hs : scan X 0 0 = (N, k, E)) (hE : kerr N E = 0) (hs1 : scan (X.drop k) 0 0 = (I, k1, E1)) (hE1 : E1 ≠ 0) :
    Calls Tryd.prog 38 #[.pointer (some ⟨r, 0, none⟩)] w (StP (rdSt X) r w) := by
  have hz1 := Sz8.new w
  have hb1 : Below w.heap.size w (w.alloc (.cells #[.int .i64 0, .int .u64 0, .string ⟨#[]⟩, .string ⟨#[]⟩, .string ⟨#[]⟩, .slice none 0 0, .int .i64 0, .float .f64 0] 26)) := (Below.refl _ _).alloc (Nat.le_refl _) _
  have hrlt : r < w.heap.size := World.block_lt_of_cell? w _ h.cell
  have h1 := h.keep (Keep.ofBelow (S := fun _ => False) hb1) (fun h => h) (fun _ _ h => h)
  have hL1 := hL.carry hb1
  have HK : Hid (∀ w', Keep (fun k => k = r ∨ k = w.heap.size) (w.alloc (.cells #[.int .i64 0, .int .u64 0, .string ⟨#[]⟩, .string ⟨#[]⟩, .string ⟨#[]⟩, .slice none 0 0, .int .i64 0, .float .f64 0] 26)) w' → Keep (fun k => k = r) w w') := fun w' k => keep_new k
  have HR : Hid (rdSt X = (0, 0, sz0, E1)) := rdSt_id hs hE hs1 hE1
  have cK := kind_any r a n c X _ h1 hs
  rw [hE] at cK
  replace cK := stp_good cK
  clear hs
  generalize hW1 : w.alloc (.cells #[.int .i64 0, .int .u64 0, .string ⟨#[]⟩, .string ⟨#[]⟩, .string ⟨#[]⟩, .slice none 0 0, .int .i64 0, .float .f64 0] 26) = W1 at hz1 hb1 h1 hL1 HK cK
  have HW1 : Hid (w.alloc (.cells #[.int .i64 0, .int .u64 0, .string ⟨#[]⟩, .string ⟨#[]⟩, .string ⟨#[]⟩, .slice none 0 0, .int .i64 0, .float .f64 0] 26) = W1) := hW1
  clear hW1
  generalize X.drop k = X1 at cK hs1
  go_enter Tryd.func38, Tryd.ntmps38
  go_wp2_with (first
    | (go_at_call 59; rw [HW1.out]; refine cK.mono ?_; rintro e w2 ⟨rfl, hat2, hk2⟩; have hz2 := hz1.keep hk2 (fun e => by omega); have z0 := hz2.cell 0 (by omega); have z1 := hz2.thaw 0; obtain ⟨p1, ⟨a3, n3, c3, p2⟩, p3⟩ := pt_put hz1 hrlt hat2 hk2 (i := 0) (by omega) (.int .i64 (N : Int)))
    | (go_at_call 60; refine (stp_bad hE1 (takeU_any r a3 n3 c3 X1 _ p2 hs1)).mono ?_; rintro e w4 ⟨rfl, hk4⟩))
  refine ⟨rfl, .inl ?_⟩
  rw [HR.out]
  exact ⟨hE1, rfl, HK.out _ (p3.trans (hk4.mono (fun j e => Or.inl e)))⟩

set_option maxHeartbeats 800000 in
theorem stanza_has (r : Nat) (a : Option Addr) (n c : Nat) (X : List Int) (w : World) (h : RdA w r a n c X) (hL : Lays w) (hr5 : 5 ≤ r) {N k E I k1 : Nat} {Y : List Int} (hs : scan X 0 0 = (N, k, E)) (hE : kerr N E = 0) (hs1 : scan (X.drop k) 0 0 = (I, k1, 0)) (hY : (X.drop k).drop k1 = Y) (hH : herr N Y ≠ 0) :
    Calls Tryd.prog 38 #[.pointer (some ⟨r, 0, none⟩)] w (StP (rdSt X) r w) := by
  have hz1 := Sz8.new w
  have hb1 : Below w.heap.size w (w.alloc (.cells #[.int .i64 0, .int .u64 0, .string ⟨#[]⟩, .string ⟨#[]⟩, .string ⟨#[]⟩, .slice none 0 0, .int .i64 0, .float .f64 0] 26)) := (Below.refl _ _).alloc (Nat.le_refl _) _
  have hrlt : r < w.heap.size := World.block_lt_of_cell? w _ h.cell
  have h1 := h.keep (Keep.ofBelow (S := fun _ => False) hb1) (fun h => h) (fun _ _ h => h)
  have hL1 := hL.carry hb1
  have HK : Hid (∀ w', Keep (fun k => k = r ∨ k = w.heap.size) (w.alloc (.cells #[.int .i64 0, .int .u64 0, .string ⟨#[]⟩, .string ⟨#[]⟩, .string ⟨#[]⟩, .slice none 0 0, .int .i64 0, .float .f64 0] 26)) w' → Keep (fun k => k = r) w w') := fun w' k => keep_new k
  have HR : Hid (rdSt X = (0, 0, sz0, herr N Y)) := rdSt_has hs hE hs1 hY hH
  have cK := kind_any r a n c X _ h1 hs
  rw [hE] at cK
  replace cK := stp_good cK
  have hN47 := kerr_ok hE
  clear hs hE
  generalize hW1 : w.alloc (.cells #[.int .i64 0, .int .u64 0, .string ⟨#[]⟩, .string ⟨#[]⟩, .string ⟨#[]⟩, .slice none 0 0, .int .i64 0, .float .f64 0] 26) = W1 at hz1 hb1 h1 hL1 HK cK
  have HW1 : Hid (w.alloc (.cells #[.int .i64 0, .int .u64 0, .string ⟨#[]⟩, .string ⟨#[]⟩, .string ⟨#[]⟩, .slice none 0 0, .int .i64 0, .float .f64 0] 26) = W1) := hW1
  clear hW1
  generalize X.drop k = X1 at cK hs1 hY
  have HY : Hid (X1.drop k1 = Y) := hY
  clear hY
  go_enter Tryd.func38, Tryd.ntmps38
  go_wp2_with (first
    | (go_at_call 59; rw [HW1.out]; refine cK.mono ?_; rintro e w2 ⟨rfl, hat2, hk2⟩; have hz2 := hz1.keep hk2 (fun e => by omega); have z0 := hz2.cell 0 (by omega); have z1 := hz2.thaw 0; obtain ⟨p1, ⟨a3, n3, c3, p2⟩, p3⟩ := pt_put hz1 hrlt hat2 hk2 (i := 0) (by omega) (.int .i64 (N : Int)))
    | (go_at_call 60; refine (stp_good (takeU_any r a3 n3 c3 X1 _ p2 hs1)).mono ?_; rw [HY.out]; rintro e w4 ⟨rfl, hat4, hk4⟩; have hz4 := p1.keep hk4 (fun e => by omega); have y0 := hz4.cell 1 (by omega); have y1 := hz4.thaw 1; have y2 := hz4.cell 0 (by omega); obtain ⟨r1, ⟨a5, n5, c5, r2⟩, r3⟩ := pt_put p1 hrlt hat4 hk4 (i := 1) (by omega) (.int .u64 (I : Int)); have hk5 := p3.trans r3; have hL5 := hL1.keepR hr5 (r := r) (fun k e => by omega) hk5)
    | (go_at_call 62; refine (stp_bad hH (has_any r a5 n5 c5 Y _ r2 N hN47 hL5)).mono ?_; rintro e w6 ⟨rfl, hk6⟩))
  refine ⟨rfl, .inl ?_⟩
  rw [HR.out]
  exact ⟨hH, rfl, HK.out _ (hk5.trans (hk6.mono (fun j e => Or.inl e)))⟩


end Go.Proofs.YtomkcmkbehcjnaaDoor
