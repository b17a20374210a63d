/- StanzaParts: each kind has just the parts of the table. -/
import Derived.Test.YtomkcmkbehcjnaaDoorStzO
namespace Go.Proofs.YtomkcmkbehcjnaaDoor.stanzaParts
open Go.RowKit
open Go.Proofs.YtomkcmkbehcjnaaDoor

theorem idx (s : ByteArray) (i : Int) (j : Nat) (w : World) (e : i = (j : Int)) (h : j < s.size) : (Instr.index 9 (.string s) (.int .i64 i)).run Tryd.prog w = .ok (.int .u8 ((nums s).getD j 0)) w := by
  subst e
  rw [run_index_string w 9 s .i64 (j : Int) Tryd.underlying9, dif_pos ⟨by omega, by omega⟩]
  have h1 : j < s.data.size := h
  have e1 : (nums s).getD j 0 = ((s.data[j]).toNat : Int) := by
    simp [nums, List.getD, Array.getElem?_eq_getElem h1]
  rw [e1]
  rfl

def ptab : List ByteArray := [⟨#[]⟩, ⟨#[65]⟩, ⟨#[84]⟩, ⟨#[84]⟩, ⟨#[65, 70]⟩, ⟨#[]⟩, ⟨#[65, 84, 78]⟩, ⟨#[84]⟩, ⟨#[78]⟩, ⟨#[65, 66, 76]⟩, ⟨#[65]⟩, ⟨#[65]⟩, ⟨#[65]⟩, ⟨#[65]⟩, ⟨#[65]⟩, ⟨#[65, 76]⟩, ⟨#[65]⟩, ⟨#[65]⟩, ⟨#[65]⟩, ⟨#[70]⟩, ⟨#[45]⟩, ⟨#[45]⟩, ⟨#[45]⟩, ⟨#[45]⟩, ⟨#[45]⟩, ⟨#[45]⟩, ⟨#[45]⟩, ⟨#[45]⟩, ⟨#[45]⟩, ⟨#[45]⟩, ⟨#[45]⟩, ⟨#[76]⟩, ⟨#[84]⟩, ⟨#[84]⟩, ⟨#[78]⟩, ⟨#[78]⟩, ⟨#[78]⟩, ⟨#[65, 66, 84, 76, 78]⟩, ⟨#[65, 78]⟩, ⟨#[78]⟩, ⟨#[65, 66, 84, 76, 78]⟩, ⟨#[65, 66, 84]⟩, ⟨#[65]⟩, ⟨#[65]⟩, ⟨#[65]⟩, ⟨#[65]⟩, ⟨#[78]⟩]
def pstr (k : Nat) : ByteArray := if 0 < k ∧ k < 47 then ptab.getD k ⟨#[]⟩ else ⟨#[45]⟩
def rowA (i : Nat) : ByteArray := if i = 1 then ⟨#[120]⟩ else ⟨#[]⟩
def rowB (i : Nat) : ByteArray := if i = 2 then ⟨#[120]⟩ else ⟨#[]⟩
def rowT (i : Nat) : ByteArray := if i = 3 then ⟨#[120]⟩ else ⟨#[]⟩
def rowL (i : Nat) : List ByteArray := if i = 4 then [⟨#[]⟩] else []
def rowN (i : Nat) : Int := if i = 5 then -1 else 0
def rowF (i : Nat) : Nat := if i = 6 then 4602678819172646912 else 0
def lets : ByteArray := ⟨#[32, 65, 66, 84, 76, 78, 70]⟩
def hasP (P : List Int) (c : Int) (b : Bool) : Bool := P.foldl (fun h x => h || x == c) b

def dash (k : Nat) : Bool := (pstr k).toList == [45]
def ok (k i : Nat) : Bool :=
  let e := chk k (rowA i) (rowB i) (rowT i) (rowL i) (rowN i) (rowF i)
  let h := hasP (nums (pstr k)) ((nums lets).getD i 0) (((i : Nat) : Int) == 0)
  if dash k then e == 3 else (e == 0 && h) || (e == 2 && !h)
theorem all_ok : ∀ k, k < 60 → ∀ i, i < 7 → ok k i = true := by decide +kernel
theorem ok_dash {k i : Nat} (hk : k < 60) (hi : i < 7) (hd : dash k = true) : chk k (rowA i) (rowB i) (rowT i) (rowL i) (rowN i) (rowF i) = 3 := by
  have h := all_ok k hk i hi
  simp only [ok, hd, if_true] at h
  simpa using h
theorem ok_else {k i : Nat} (hk : k < 60) (hi : i < 7) (hd : dash k = false) : (chk k (rowA i) (rowB i) (rowT i) (rowL i) (rowN i) (rowF i) = 0 ∧ hasP (nums (pstr k)) ((nums lets).getD i 0) (((i : Nat) : Int) == 0) = true) ∨ (chk k (rowA i) (rowB i) (rowT i) (rowL i) (rowN i) (rowF i) = 2 ∧ hasP (nums (pstr k)) ((nums lets).getD i 0) (((i : Nat) : Int) == 0) = false) := by
  have h := all_ok k hk i hi
  simp only [ok, hd] at h
  simpa using h

theorem tab_get : ∀ k, k < 47 → (#[.string ⟨#[]⟩, .string ⟨#[65]⟩, .string ⟨#[84]⟩, .string ⟨#[84]⟩, .string ⟨#[65, 70]⟩, .string ⟨#[]⟩, .string ⟨#[65, 84, 78]⟩, .string ⟨#[84]⟩, .string ⟨#[78]⟩, .string ⟨#[65, 66, 76]⟩, .string ⟨#[65]⟩, .string ⟨#[65]⟩, .string ⟨#[65]⟩, .string ⟨#[65]⟩, .string ⟨#[65]⟩, .string ⟨#[65, 76]⟩, .string ⟨#[65]⟩, .string ⟨#[65]⟩, .string ⟨#[65]⟩, .string ⟨#[70]⟩, .string ⟨#[45]⟩, .string ⟨#[45]⟩, .string ⟨#[45]⟩, .string ⟨#[45]⟩, .string ⟨#[45]⟩, .string ⟨#[45]⟩, .string ⟨#[45]⟩, .string ⟨#[45]⟩, .string ⟨#[45]⟩, .string ⟨#[45]⟩, .string ⟨#[45]⟩, .string ⟨#[76]⟩, .string ⟨#[84]⟩, .string ⟨#[84]⟩, .string ⟨#[78]⟩, .string ⟨#[78]⟩, .string ⟨#[78]⟩, .string ⟨#[65, 66, 84, 76, 78]⟩, .string ⟨#[65, 78]⟩, .string ⟨#[78]⟩, .string ⟨#[65, 66, 84, 76, 78]⟩, .string ⟨#[65, 66, 84]⟩, .string ⟨#[65]⟩, .string ⟨#[65]⟩, .string ⟨#[65]⟩, .string ⟨#[65]⟩, .string ⟨#[78]⟩] : Array Value)[k]? = some (.string (ptab.getD k ⟨#[]⟩)) := by
  intro k hk
  have e : (#[.string ⟨#[]⟩, .string ⟨#[65]⟩, .string ⟨#[84]⟩, .string ⟨#[84]⟩, .string ⟨#[65, 70]⟩, .string ⟨#[]⟩, .string ⟨#[65, 84, 78]⟩, .string ⟨#[84]⟩, .string ⟨#[78]⟩, .string ⟨#[65, 66, 76]⟩, .string ⟨#[65]⟩, .string ⟨#[65]⟩, .string ⟨#[65]⟩, .string ⟨#[65]⟩, .string ⟨#[65]⟩, .string ⟨#[65, 76]⟩, .string ⟨#[65]⟩, .string ⟨#[65]⟩, .string ⟨#[65]⟩, .string ⟨#[70]⟩, .string ⟨#[45]⟩, .string ⟨#[45]⟩, .string ⟨#[45]⟩, .string ⟨#[45]⟩, .string ⟨#[45]⟩, .string ⟨#[45]⟩, .string ⟨#[45]⟩, .string ⟨#[45]⟩, .string ⟨#[45]⟩, .string ⟨#[45]⟩, .string ⟨#[45]⟩, .string ⟨#[76]⟩, .string ⟨#[84]⟩, .string ⟨#[84]⟩, .string ⟨#[78]⟩, .string ⟨#[78]⟩, .string ⟨#[78]⟩, .string ⟨#[65, 66, 84, 76, 78]⟩, .string ⟨#[65, 78]⟩, .string ⟨#[78]⟩, .string ⟨#[65, 66, 84, 76, 78]⟩, .string ⟨#[65, 66, 84]⟩, .string ⟨#[65]⟩, .string ⟨#[65]⟩, .string ⟨#[65]⟩, .string ⟨#[65]⟩, .string ⟨#[78]⟩] : Array Value) = (ptab.map Value.string).toArray := rfl
  have hl : k < ptab.length := hk
  rw [e, List.getElem?_toArray, List.getElem?_map, List.getElem?_eq_getElem hl]
  simp [List.getD, List.getElem?_eq_getElem hl]

theorem cell_arr {w : World} {g k : Nat} {cs : Array Value} {t : TypeId} {fr : Nat × Nat} {v : Value} (h : w.heap[g]? = some (.cells cs t fr)) (hv : cs[k]? = some v) : w.cell? ⟨g, k, none⟩ = some v := by simp [World.cell?, h, hv]

def rla (b1 i : Nat) : Option Addr := if i = 4 then some ⟨b1, 0, none⟩ else none
def rln (i : Nat) : Nat := if i = 4 then 1 else 0
def rowV (b1 i : Nat) : List Value := [.int .i64 0, .int .u64 0, .string (rowA i), .string (rowB i), .string (rowT i), .slice (rla b1 i) (rln i) (rln i), .int .i64 (rowN i), .float .f64 (rowF i)]
theorem all_get (b1 : Nat) (i j : Nat) (hi : i < 7) (hj : j < 8) : (#[.int .i64 0, .int .u64 0, .string ⟨#[]⟩, .string ⟨#[]⟩, .string ⟨#[]⟩, .slice none 0 0, .int .i64 0, .float .f64 0, .int .i64 0, .int .u64 0, .string ⟨#[120]⟩, .string ⟨#[]⟩, .string ⟨#[]⟩, .slice none 0 0, .int .i64 0, .float .f64 0, .int .i64 0, .int .u64 0, .string ⟨#[]⟩, .string ⟨#[120]⟩, .string ⟨#[]⟩, .slice none 0 0, .int .i64 0, .float .f64 0, .int .i64 0, .int .u64 0, .string ⟨#[]⟩, .string ⟨#[]⟩, .string ⟨#[120]⟩, .slice none 0 0, .int .i64 0, .float .f64 0, .int .i64 0, .int .u64 0, .string ⟨#[]⟩, .string ⟨#[]⟩, .string ⟨#[]⟩, .slice (some ⟨b1, 0, none⟩) 1 1, .int .i64 0, .float .f64 0, .int .i64 0, .int .u64 0, .string ⟨#[]⟩, .string ⟨#[]⟩, .string ⟨#[]⟩, .slice none 0 0, .int .i64 (-1), .float .f64 0, .int .i64 0, .int .u64 0, .string ⟨#[]⟩, .string ⟨#[]⟩, .string ⟨#[]⟩, .slice none 0 0, .int .i64 0, .float .f64 4602678819172646912] : Array Value)[i * 8 + j]? = some ((rowV b1 i).getD j undef) := by
  match i, hi with
  | 0, _ => match j, hj with
    | 0, _ => rfl
    | 1, _ => rfl
    | 2, _ => rfl
    | 3, _ => rfl
    | 4, _ => rfl
    | 5, _ => rfl
    | 6, _ => rfl
    | 7, _ => rfl
  | 1, _ => match j, hj with
    | 0, _ => rfl
    | 1, _ => rfl
    | 2, _ => rfl
    | 3, _ => rfl
    | 4, _ => rfl
    | 5, _ => rfl
    | 6, _ => rfl
    | 7, _ => rfl
  | 2, _ => match j, hj with
    | 0, _ => rfl
    | 1, _ => rfl
    | 2, _ => rfl
    | 3, _ => rfl
    | 4, _ => rfl
    | 5, _ => rfl
    | 6, _ => rfl
    | 7, _ => rfl
  | 3, _ => match j, hj with
    | 0, _ => rfl
    | 1, _ => rfl
    | 2, _ => rfl
    | 3, _ => rfl
    | 4, _ => rfl
    | 5, _ => rfl
    | 6, _ => rfl
    | 7, _ => rfl
  | 4, _ => match j, hj with
    | 0, _ => rfl
    | 1, _ => rfl
    | 2, _ => rfl
    | 3, _ => rfl
    | 4, _ => rfl
    | 5, _ => rfl
    | 6, _ => rfl
    | 7, _ => rfl
  | 5, _ => match j, hj with
    | 0, _ => rfl
    | 1, _ => rfl
    | 2, _ => rfl
    | 3, _ => rfl
    | 4, _ => rfl
    | 5, _ => rfl
    | 6, _ => rfl
    | 7, _ => rfl
  | 6, _ => match j, hj with
    | 0, _ => rfl
    | 1, _ => rfl
    | 2, _ => rfl
    | 3, _ => rfl
    | 4, _ => rfl
    | 5, _ => rfl
    | 6, _ => rfl
    | 7, _ => rfl

theorem hasP_snoc (l : List Int) (c : Int) (b : Bool) {j : Nat} (h : j < l.length) : hasP (l.take (j + 1)) c b = (hasP (l.take j) c b || l.getD j 0 == c) := by
  unfold hasP
  rw [List.take_add_one, List.foldl_append, List.getElem?_eq_getElem h]
  simp [List.getD, List.getElem?_eq_getElem h]
theorem pstr_size : ∀ {k : Nat}, k < 60 → (pstr k).size ≤ 5 := by
  have h : ∀ k, k < 60 → (pstr k).size ≤ 5 := by decide +kernel
  exact @h
theorem rowA_size (i : Nat) : (rowA i).size ≤ 1 := by unfold rowA; split <;> decide
theorem rowB_size (i : Nat) : (rowB i).size ≤ 1 := by unfold rowB; split <;> decide
theorem rowT_size (i : Nat) : (rowT i).size ≤ 1 := by unfold rowT; split <;> decide
theorem rows_srd (w : World) (b1 i : Nat) (h : w.cell? ⟨b1, 0, none⟩ = some (.string ⟨#[]⟩)) : SRd w (rla b1 i) (rln i) (rln i) (rowL i) := by
  unfold rla rln rowL
  by_cases h4 : i = 4
  · rw [if_pos h4, if_pos h4, if_pos h4]
    refine ⟨rfl, Nat.le_refl _, by unfold maxLen; omega, (fun h => by cases h), (fun s hs => by simp at hs; subst hs; decide), fun ad had j hj => ?_⟩
    cases had
    obtain rfl : j = 0 := by omega
    exact h
  · rw [if_neg h4, if_neg h4, if_neg h4]
    exact srd_nil w

theorem kk_of (kd : Int) : ∃ kk : Nat, (wrap64 (kd.tmod 60 + 60)).tmod 60 = (kk : Int) ∧ kk < 60 := by
  have a1 : kd.tmod 60 < 60 := Int.tmod_lt_of_pos _ (by omega)
  have a2 : -60 < kd.tmod 60 := by
    have := Int.lt_tmod_of_pos kd (b := 60) (by omega)
    omega
  have e : wrap64 (kd.tmod 60 + 60) = kd.tmod 60 + 60 := by unfold wrap64; omega
  rw [e]
  have b0 : 0 ≤ (kd.tmod 60 + 60).tmod 60 := Int.tmod_nonneg _ (by omega)
  have b1 : (kd.tmod 60 + 60).tmod 60 < 60 := Int.tmod_lt_of_pos _ (by omega)
  exact ⟨((kd.tmod 60 + 60).tmod 60).toNat, by omega, by omega⟩

set_option maxHeartbeats 3200000 in
set_option maxRecDepth 100000 in
theorem walkN (kd : Int) (id : Nat) (w : World) (hL : Lays w) :
    Calls Tryd.prog 7 #[.int .i64 kd, .int .u64 id] w fun e w' => e = .returned (.bool true) ∧ Below w.heap.size w w' := by
  obtain ⟨kk, hkk, h60⟩ := kk_of kd
  have hsf := run_store_float
  have hct : 0 < kk ∧ kk < 47 → (w.alloc (.cells #[.string ⟨#[]⟩, .string ⟨#[65]⟩, .string ⟨#[84]⟩, .string ⟨#[84]⟩, .string ⟨#[65, 70]⟩, .string ⟨#[]⟩, .string ⟨#[65, 84, 78]⟩, .string ⟨#[84]⟩, .string ⟨#[78]⟩, .string ⟨#[65, 66, 76]⟩, .string ⟨#[65]⟩, .string ⟨#[65]⟩, .string ⟨#[65]⟩, .string ⟨#[65]⟩, .string ⟨#[65]⟩, .string ⟨#[65, 76]⟩, .string ⟨#[65]⟩, .string ⟨#[65]⟩, .string ⟨#[65]⟩, .string ⟨#[70]⟩, .string ⟨#[45]⟩, .string ⟨#[45]⟩, .string ⟨#[45]⟩, .string ⟨#[45]⟩, .string ⟨#[45]⟩, .string ⟨#[45]⟩, .string ⟨#[45]⟩, .string ⟨#[45]⟩, .string ⟨#[45]⟩, .string ⟨#[45]⟩, .string ⟨#[45]⟩, .string ⟨#[76]⟩, .string ⟨#[84]⟩, .string ⟨#[84]⟩, .string ⟨#[78]⟩, .string ⟨#[78]⟩, .string ⟨#[78]⟩, .string ⟨#[65, 66, 84, 76, 78]⟩, .string ⟨#[65, 78]⟩, .string ⟨#[78]⟩, .string ⟨#[65, 66, 84, 76, 78]⟩, .string ⟨#[65, 66, 84]⟩, .string ⟨#[65]⟩, .string ⟨#[65]⟩, .string ⟨#[65]⟩, .string ⟨#[65]⟩, .string ⟨#[78]⟩] 9)).cell? ⟨w.heap.size, kk, none⟩ = some (.string (pstr kk)) := by
    intro hin
    have hh : (w.alloc (.cells #[.string ⟨#[]⟩, .string ⟨#[65]⟩, .string ⟨#[84]⟩, .string ⟨#[84]⟩, .string ⟨#[65, 70]⟩, .string ⟨#[]⟩, .string ⟨#[65, 84, 78]⟩, .string ⟨#[84]⟩, .string ⟨#[78]⟩, .string ⟨#[65, 66, 76]⟩, .string ⟨#[65]⟩, .string ⟨#[65]⟩, .string ⟨#[65]⟩, .string ⟨#[65]⟩, .string ⟨#[65]⟩, .string ⟨#[65, 76]⟩, .string ⟨#[65]⟩, .string ⟨#[65]⟩, .string ⟨#[65]⟩, .string ⟨#[70]⟩, .string ⟨#[45]⟩, .string ⟨#[45]⟩, .string ⟨#[45]⟩, .string ⟨#[45]⟩, .string ⟨#[45]⟩, .string ⟨#[45]⟩, .string ⟨#[45]⟩, .string ⟨#[45]⟩, .string ⟨#[45]⟩, .string ⟨#[45]⟩, .string ⟨#[45]⟩, .string ⟨#[76]⟩, .string ⟨#[84]⟩, .string ⟨#[84]⟩, .string ⟨#[78]⟩, .string ⟨#[78]⟩, .string ⟨#[78]⟩, .string ⟨#[65, 66, 84, 76, 78]⟩, .string ⟨#[65, 78]⟩, .string ⟨#[78]⟩, .string ⟨#[65, 66, 84, 76, 78]⟩, .string ⟨#[65, 66, 84]⟩, .string ⟨#[65]⟩, .string ⟨#[65]⟩, .string ⟨#[65]⟩, .string ⟨#[65]⟩, .string ⟨#[78]⟩] 9)).heap[w.heap.size]? = some (.cells #[.string ⟨#[]⟩, .string ⟨#[65]⟩, .string ⟨#[84]⟩, .string ⟨#[84]⟩, .string ⟨#[65, 70]⟩, .string ⟨#[]⟩, .string ⟨#[65, 84, 78]⟩, .string ⟨#[84]⟩, .string ⟨#[78]⟩, .string ⟨#[65, 66, 76]⟩, .string ⟨#[65]⟩, .string ⟨#[65]⟩, .string ⟨#[65]⟩, .string ⟨#[65]⟩, .string ⟨#[65]⟩, .string ⟨#[65, 76]⟩, .string ⟨#[65]⟩, .string ⟨#[65]⟩, .string ⟨#[65]⟩, .string ⟨#[70]⟩, .string ⟨#[45]⟩, .string ⟨#[45]⟩, .string ⟨#[45]⟩, .string ⟨#[45]⟩, .string ⟨#[45]⟩, .string ⟨#[45]⟩, .string ⟨#[45]⟩, .string ⟨#[45]⟩, .string ⟨#[45]⟩, .string ⟨#[45]⟩, .string ⟨#[45]⟩, .string ⟨#[76]⟩, .string ⟨#[84]⟩, .string ⟨#[84]⟩, .string ⟨#[78]⟩, .string ⟨#[78]⟩, .string ⟨#[78]⟩, .string ⟨#[65, 66, 84, 76, 78]⟩, .string ⟨#[65, 78]⟩, .string ⟨#[78]⟩, .string ⟨#[65, 66, 84, 76, 78]⟩, .string ⟨#[65, 66, 84]⟩, .string ⟨#[65]⟩, .string ⟨#[65]⟩, .string ⟨#[65]⟩, .string ⟨#[65]⟩, .string ⟨#[78]⟩] 9 (0, 0)) := alloc_at rfl
    have HP : pstr kk = ptab.getD kk ⟨#[]⟩ := by unfold pstr; rw [if_pos hin]
    rw [HP]
    exact cell_arr hh (tab_get kk hin.2)
  have hout : ¬ (0 < kk ∧ kk < 47) → pstr kk = ⟨#[45]⟩ := by intro h; unfold pstr; rw [if_neg h]
  have hb1 : Below w.heap.size w (w.alloc (.cells #[.string ⟨#[]⟩, .string ⟨#[65]⟩, .string ⟨#[84]⟩, .string ⟨#[84]⟩, .string ⟨#[65, 70]⟩, .string ⟨#[]⟩, .string ⟨#[65, 84, 78]⟩, .string ⟨#[84]⟩, .string ⟨#[78]⟩, .string ⟨#[65, 66, 76]⟩, .string ⟨#[65]⟩, .string ⟨#[65]⟩, .string ⟨#[65]⟩, .string ⟨#[65]⟩, .string ⟨#[65]⟩, .string ⟨#[65, 76]⟩, .string ⟨#[65]⟩, .string ⟨#[65]⟩, .string ⟨#[65]⟩, .string ⟨#[70]⟩, .string ⟨#[45]⟩, .string ⟨#[45]⟩, .string ⟨#[45]⟩, .string ⟨#[45]⟩, .string ⟨#[45]⟩, .string ⟨#[45]⟩, .string ⟨#[45]⟩, .string ⟨#[45]⟩, .string ⟨#[45]⟩, .string ⟨#[45]⟩, .string ⟨#[45]⟩, .string ⟨#[76]⟩, .string ⟨#[84]⟩, .string ⟨#[84]⟩, .string ⟨#[78]⟩, .string ⟨#[78]⟩, .string ⟨#[78]⟩, .string ⟨#[65, 66, 84, 76, 78]⟩, .string ⟨#[65, 78]⟩, .string ⟨#[78]⟩, .string ⟨#[65, 66, 84, 76, 78]⟩, .string ⟨#[65, 66, 84]⟩, .string ⟨#[65]⟩, .string ⟨#[65]⟩, .string ⟨#[65]⟩, .string ⟨#[65]⟩, .string ⟨#[78]⟩] 9)) := (Below.refl _ _).alloc (Nat.le_refl _) _
  go_enter Tryd.func7, Tryd.ntmps7
  go_upto_region 4 with fail
  generalize w.alloc _ = W1 at hb1 hct ⊢
  go_cut [27] from 20 to 31 (fun p wx => p = .bool (decide (0 < kk ∧ kk < 47)) ∧ wx = W1)
  case first =>
    clear hct hout
    by_cases hp0 : (0 : Int) < (kk : Int)
    · go_wp2
      go_meet
      case rel => exact ⟨by congr 1; rw [decide_eq_decide]; omega, rfl⟩
    · go_wp2
      go_meet
      case rel => exact ⟨by congr 1; rw [eq_comm, decide_eq_false_iff_not]; omega, rfl⟩
  obtain ⟨rfl, rfl⟩ := hcut
  go_upto_if 27 with fail
  go_cut [7] from 27 to 31 (fun p wy => p = .string (pstr kk) ∧ wy = wc)
  case first =>
    by_cases hin : 0 < kk ∧ kk < 47
    · rw [decide_eq_true hin]
      have hc := hct hin
      have hp1 : (kk : Int) < 47 := by omega
      go_wp2
      go_meet
      case rel => exact ⟨rfl, rfl⟩
    · rw [decide_eq_false hin]
      have hc := hout hin
      clear hct hout
      go_wp2
      go_meet
      case rel => exact ⟨by rw [hc], rfl⟩
  obtain ⟨rfl, rfl⟩ := hcut
  clear hct hout
  go_wp2
  have hb3 : Below w.heap.size w ((wc.alloc (.cells #[.string ⟨#[]⟩] 9)).alloc (.cells #[.int .i64 0, .int .u64 0, .string ⟨#[]⟩, .string ⟨#[]⟩, .string ⟨#[]⟩, .slice none 0 0, .int .i64 0, .float .f64 0, .int .i64 0, .int .u64 0, .string ⟨#[120]⟩, .string ⟨#[]⟩, .string ⟨#[]⟩, .slice none 0 0, .int .i64 0, .float .f64 0, .int .i64 0, .int .u64 0, .string ⟨#[]⟩, .string ⟨#[120]⟩, .string ⟨#[]⟩, .slice none 0 0, .int .i64 0, .float .f64 0, .int .i64 0, .int .u64 0, .string ⟨#[]⟩, .string ⟨#[]⟩, .string ⟨#[120]⟩, .slice none 0 0, .int .i64 0, .float .f64 0, .int .i64 0, .int .u64 0, .string ⟨#[]⟩, .string ⟨#[]⟩, .string ⟨#[]⟩, .slice (some ⟨wc.heap.size, 0, none⟩) 1 1, .int .i64 0, .float .f64 0, .int .i64 0, .int .u64 0, .string ⟨#[]⟩, .string ⟨#[]⟩, .string ⟨#[]⟩, .slice none 0 0, .int .i64 (-1), .float .f64 0, .int .i64 0, .int .u64 0, .string ⟨#[]⟩, .string ⟨#[]⟩, .string ⟨#[]⟩, .slice none 0 0, .int .i64 0, .float .f64 4602678819172646912] 26)) := (hb1.alloc hb1.size _).alloc (Nat.le_trans hb1.size (by simp)) _
  have hh3 : ((wc.alloc (.cells #[.string ⟨#[]⟩] 9)).alloc (.cells #[.int .i64 0, .int .u64 0, .string ⟨#[]⟩, .string ⟨#[]⟩, .string ⟨#[]⟩, .slice none 0 0, .int .i64 0, .float .f64 0, .int .i64 0, .int .u64 0, .string ⟨#[120]⟩, .string ⟨#[]⟩, .string ⟨#[]⟩, .slice none 0 0, .int .i64 0, .float .f64 0, .int .i64 0, .int .u64 0, .string ⟨#[]⟩, .string ⟨#[120]⟩, .string ⟨#[]⟩, .slice none 0 0, .int .i64 0, .float .f64 0, .int .i64 0, .int .u64 0, .string ⟨#[]⟩, .string ⟨#[]⟩, .string ⟨#[120]⟩, .slice none 0 0, .int .i64 0, .float .f64 0, .int .i64 0, .int .u64 0, .string ⟨#[]⟩, .string ⟨#[]⟩, .string ⟨#[]⟩, .slice (some ⟨wc.heap.size, 0, none⟩) 1 1, .int .i64 0, .float .f64 0, .int .i64 0, .int .u64 0, .string ⟨#[]⟩, .string ⟨#[]⟩, .string ⟨#[]⟩, .slice none 0 0, .int .i64 (-1), .float .f64 0, .int .i64 0, .int .u64 0, .string ⟨#[]⟩, .string ⟨#[]⟩, .string ⟨#[]⟩, .slice none 0 0, .int .i64 0, .float .f64 4602678819172646912] 26)).heap[wc.heap.size + 1]? = some (.cells #[.int .i64 0, .int .u64 0, .string ⟨#[]⟩, .string ⟨#[]⟩, .string ⟨#[]⟩, .slice none 0 0, .int .i64 0, .float .f64 0, .int .i64 0, .int .u64 0, .string ⟨#[120]⟩, .string ⟨#[]⟩, .string ⟨#[]⟩, .slice none 0 0, .int .i64 0, .float .f64 0, .int .i64 0, .int .u64 0, .string ⟨#[]⟩, .string ⟨#[120]⟩, .string ⟨#[]⟩, .slice none 0 0, .int .i64 0, .float .f64 0, .int .i64 0, .int .u64 0, .string ⟨#[]⟩, .string ⟨#[]⟩, .string ⟨#[120]⟩, .slice none 0 0, .int .i64 0, .float .f64 0, .int .i64 0, .int .u64 0, .string ⟨#[]⟩, .string ⟨#[]⟩, .string ⟨#[]⟩, .slice (some ⟨wc.heap.size, 0, none⟩) 1 1, .int .i64 0, .float .f64 0, .int .i64 0, .int .u64 0, .string ⟨#[]⟩, .string ⟨#[]⟩, .string ⟨#[]⟩, .slice none 0 0, .int .i64 (-1), .float .f64 0, .int .i64 0, .int .u64 0, .string ⟨#[]⟩, .string ⟨#[]⟩, .string ⟨#[]⟩, .slice none 0 0, .int .i64 0, .float .f64 4602678819172646912] 26 (0, 0)) := alloc_at (by simp)
  have hq3 : ((wc.alloc (.cells #[.string ⟨#[]⟩] 9)).alloc (.cells #[.int .i64 0, .int .u64 0, .string ⟨#[]⟩, .string ⟨#[]⟩, .string ⟨#[]⟩, .slice none 0 0, .int .i64 0, .float .f64 0, .int .i64 0, .int .u64 0, .string ⟨#[120]⟩, .string ⟨#[]⟩, .string ⟨#[]⟩, .slice none 0 0, .int .i64 0, .float .f64 0, .int .i64 0, .int .u64 0, .string ⟨#[]⟩, .string ⟨#[120]⟩, .string ⟨#[]⟩, .slice none 0 0, .int .i64 0, .float .f64 0, .int .i64 0, .int .u64 0, .string ⟨#[]⟩, .string ⟨#[]⟩, .string ⟨#[120]⟩, .slice none 0 0, .int .i64 0, .float .f64 0, .int .i64 0, .int .u64 0, .string ⟨#[]⟩, .string ⟨#[]⟩, .string ⟨#[]⟩, .slice (some ⟨wc.heap.size, 0, none⟩) 1 1, .int .i64 0, .float .f64 0, .int .i64 0, .int .u64 0, .string ⟨#[]⟩, .string ⟨#[]⟩, .string ⟨#[]⟩, .slice none 0 0, .int .i64 (-1), .float .f64 0, .int .i64 0, .int .u64 0, .string ⟨#[]⟩, .string ⟨#[]⟩, .string ⟨#[]⟩, .slice none 0 0, .int .i64 0, .float .f64 4602678819172646912] 26)).cell? ⟨wc.heap.size, 0, none⟩ = some (.string ⟨#[]⟩) := by
    rw [World.cell?_alloc_lt _ _ _ (by simp)]; simp
  have HA : Hid (∀ i j, i < 7 → j < 8 → ((wc.alloc (.cells #[.string ⟨#[]⟩] 9)).alloc (.cells #[.int .i64 0, .int .u64 0, .string ⟨#[]⟩, .string ⟨#[]⟩, .string ⟨#[]⟩, .slice none 0 0, .int .i64 0, .float .f64 0, .int .i64 0, .int .u64 0, .string ⟨#[120]⟩, .string ⟨#[]⟩, .string ⟨#[]⟩, .slice none 0 0, .int .i64 0, .float .f64 0, .int .i64 0, .int .u64 0, .string ⟨#[]⟩, .string ⟨#[120]⟩, .string ⟨#[]⟩, .slice none 0 0, .int .i64 0, .float .f64 0, .int .i64 0, .int .u64 0, .string ⟨#[]⟩, .string ⟨#[]⟩, .string ⟨#[120]⟩, .slice none 0 0, .int .i64 0, .float .f64 0, .int .i64 0, .int .u64 0, .string ⟨#[]⟩, .string ⟨#[]⟩, .string ⟨#[]⟩, .slice (some ⟨wc.heap.size, 0, none⟩) 1 1, .int .i64 0, .float .f64 0, .int .i64 0, .int .u64 0, .string ⟨#[]⟩, .string ⟨#[]⟩, .string ⟨#[]⟩, .slice none 0 0, .int .i64 (-1), .float .f64 0, .int .i64 0, .int .u64 0, .string ⟨#[]⟩, .string ⟨#[]⟩, .string ⟨#[]⟩, .slice none 0 0, .int .i64 0, .float .f64 4602678819172646912] 26)).cell? ⟨wc.heap.size + 1, i * 8 + j, none⟩ = some ((rowV wc.heap.size i).getD j undef)) := fun i j hi hj => cell_arr hh3 (all_get _ i j hi hj)
  clear hh3
  have hsz3 : wc.heap.size + 1 < ((wc.alloc (.cells #[.string ⟨#[]⟩] 9)).alloc (.cells #[.int .i64 0, .int .u64 0, .string ⟨#[]⟩, .string ⟨#[]⟩, .string ⟨#[]⟩, .slice none 0 0, .int .i64 0, .float .f64 0, .int .i64 0, .int .u64 0, .string ⟨#[120]⟩, .string ⟨#[]⟩, .string ⟨#[]⟩, .slice none 0 0, .int .i64 0, .float .f64 0, .int .i64 0, .int .u64 0, .string ⟨#[]⟩, .string ⟨#[120]⟩, .string ⟨#[]⟩, .slice none 0 0, .int .i64 0, .float .f64 0, .int .i64 0, .int .u64 0, .string ⟨#[]⟩, .string ⟨#[]⟩, .string ⟨#[120]⟩, .slice none 0 0, .int .i64 0, .float .f64 0, .int .i64 0, .int .u64 0, .string ⟨#[]⟩, .string ⟨#[]⟩, .string ⟨#[]⟩, .slice (some ⟨wc.heap.size, 0, none⟩) 1 1, .int .i64 0, .float .f64 0, .int .i64 0, .int .u64 0, .string ⟨#[]⟩, .string ⟨#[]⟩, .string ⟨#[]⟩, .slice none 0 0, .int .i64 (-1), .float .f64 0, .int .i64 0, .int .u64 0, .string ⟨#[]⟩, .string ⟨#[]⟩, .string ⟨#[]⟩, .slice none 0 0, .int .i64 0, .float .f64 4602678819172646912] 26)).heap.size := by simp
  generalize (wc.alloc _).alloc _ = W3 at hb3 hq3 HA hsz3 ⊢
  have HO : Hid (∀ i, i < 7 → (dash kk = true → chk kk (rowA i) (rowB i) (rowT i) (rowL i) (rowN i) (rowF i) = 3) ∧ (dash kk = false → (chk kk (rowA i) (rowB i) (rowT i) (rowL i) (rowN i) (rowF i) = 0 ∧ hasP (nums (pstr kk)) ((nums lets).getD i 0) (((i : Nat) : Int) == 0) = true) ∨ (chk kk (rowA i) (rowB i) (rowT i) (rowL i) (rowN i) (rowF i) = 2 ∧ hasP (nums (pstr kk)) ((nums lets).getD i 0) (((i : Nat) : Int) == 0) = false))) := fun i hi => ⟨ok_dash h60 hi, ok_else h60 hi⟩
  have HD : Hid (dash kk = ((pstr kk).toList == [45])) := rfl
  have hP9 : (pstr kk).size ≤ 5 := pstr_size h60
  generalize pstr kk = P at HO HD hP9 ⊢
  have hL3 := hL.carry hb3
  go_loopw [10] (fun v wr => ∃ i : Nat, i ≤ 7 ∧ v = .int .i64 i ∧ Below W3.heap.size W3 wr) (fun v _ => 7 - (intOf v).toNat)
  case atStart => exact ⟨0, by omega, rfl, Below.refl _ _⟩
  case round =>
    obtain ⟨i, hi, rfl, hb⟩ := hrel
    by_cases hi7 : i < 7
    · have hi7' : (i : Int) < 7 := by omega
      have go : ∀ {p : Addr} {v : Value}, W3.cell? p = some v → wr.cell? p = some v := fun hc => (hb.cell (World.block_lt_of_cell? W3 _ hc)).trans hc
      have c0 : wr.cell? ⟨wc.heap.size + 1, i * 8, none⟩ = some (.int .i64 0) := go (HA.out i 0 hi7 (by omega))
      have c1 : wr.cell? ⟨wc.heap.size + 1, i * 8 + 1, none⟩ = some (.int .u64 0) := go (HA.out i 1 hi7 (by omega))
      have c2 : wr.cell? ⟨wc.heap.size + 1, i * 8 + 2, none⟩ = some (.string (rowA i)) := go (HA.out i 2 hi7 (by omega))
      have c3 : wr.cell? ⟨wc.heap.size + 1, i * 8 + 3, none⟩ = some (.string (rowB i)) := go (HA.out i 3 hi7 (by omega))
      have c4 : wr.cell? ⟨wc.heap.size + 1, i * 8 + 4, none⟩ = some (.string (rowT i)) := go (HA.out i 4 hi7 (by omega))
      have c5 : wr.cell? ⟨wc.heap.size + 1, i * 8 + 5, none⟩ = some (.slice (rla wc.heap.size i) (rln i) (rln i)) := go (HA.out i 5 hi7 (by omega))
      have c6 : wr.cell? ⟨wc.heap.size + 1, i * 8 + 6, none⟩ = some (.int .i64 (rowN i)) := go (HA.out i 6 hi7 (by omega))
      have c7 : wr.cell? ⟨wc.heap.size + 1, i * 8 + 7, none⟩ = some (.float .f64 (rowF i)) := go (HA.out i 7 hi7 (by omega))
      have hq := go hq3
      obtain ⟨HO1, HO2⟩ := HO.out i hi7
      have hA := rowA_size i
      have hB := rowB_size i
      have hT := rowT_size i
      have hS := rows_srd wr wc.heap.size i hq
      have hb4 : Below wr.heap.size wr (wr.alloc (.cells #[.int .i64 kk, .int .u64 id, .string (rowA i), .string (rowB i), .string (rowT i), .slice (rla wc.heap.size i) (rln i) (rln i), .int .i64 (rowN i), .float .f64 (rowF i)] 26)) := (Below.refl _ _).alloc (Nat.le_refl _) _
      have HO1' : Hid _ := HO1
      have HO2' : Hid _ := HO2
      clear HO1 HO2 go
      have hz4 : SzAt (wr.alloc (.cells #[.int .i64 kk, .int .u64 id, .string (rowA i), .string (rowB i), .string (rowT i), .slice (rla wc.heap.size i) (rln i) (rln i), .int .i64 (rowN i), .float .f64 (rowF i)] 26)) wr.heap.size kk id (rowA i) (rowB i) (rowT i) (rla wc.heap.size i) (rln i) (rln i) (rowN i) (rowF i) := SzAt.new wr
      have hL4 := (hL3.carry hb).carry hb4
      have hS4 := hS.carry hb4
      have hic : ∀ w, (Instr.index 9 (.string ⟨#[32, 65, 66, 84, 76, 78, 70]⟩) (.int .i64 (i : Int))).run Tryd.prog w = .ok (.int .u8 ((nums lets).getD i 0)) w := fun w => idx lets i i w rfl hi7
      clear hS
      go_wp2
      generalize wr.alloc _ = W4 at hb4 hz4 hL4 hS4 ⊢
      generalize (nums lets).getD i 0 = cc at hic HO2'
      clear c0 c1 c2 c3 c4 c5 c6 c7 hq
      go_loopw [12, 13] (fun hv jv wx => ∃ j : Nat, j ≤ P.size ∧ jv = .int .i64 j ∧ hv = .bool (hasP ((nums P).take j) cc ((i : Int) == 0)) ∧ Below W4.heap.size W4 wx) (fun _ jv _ => P.size - (intOf jv).toNat)
      case atStart => exact ⟨0, by omega, rfl, rfl, Below.refl _ _⟩
      case round =>
        obtain ⟨j, hj, rfl, rfl, hbx⟩ := hrel
        by_cases hjs : (j : Int) < (P.size : Int)
        · have HN : Hid (hasP ((nums P).take (j + 1)) cc ((i : Int) == 0) = (hasP ((nums P).take j) cc ((i : Int) == 0) || (nums P).getD j 0 == cc)) := hasP_snoc _ _ _ (by rw [nums_len]; omega)
          have hij : ∀ w, (Instr.index 9 (.string P) (.int .i64 (j : Int))).run Tryd.prog w = .ok (.int .u8 ((nums P).getD j 0)) w := fun w => idx P j j w rfl (by omega)
          generalize hasP ((nums P).take j) cc ((i : Int) == 0) = bv at HN ⊢
          generalize (nums P).getD j 0 = xx at HN hij
          cases bv with
          | true =>
            go_upto_region 17 with fail
            refine wp_region_lx (fun _ => True) [] 11 (by kernel_rfl) (by kernel_rfl) ?_
            have hbd := hbx.drew
            clear hbx
            generalize World.drew _ = W5 at hbd ⊢
            have HS : (fun _ : World => True) W5 := trivial
            refine lx_rd 0 ?vAt0 (by kernel_rfl) (fun _ _ d _ _ h => by cases d <;> exact h) (by kernel_rfl) HS rfl rfl rfl (fun w' hS => ?hAt0) ?_
            case hAt0 => first | (go_simp; rfl) | go_simp
            simp only [List.setIfInBounds_toArray, List.set_cons_zero, List.set_cons_succ]
            refine lx_rd 1 ?vAt1 (by kernel_rfl) (fun _ _ d _ _ h => by cases d <;> exact h) (by kernel_rfl) HS rfl rfl rfl (fun w' hS => ?hAt1) ?_
            case hAt1 => first | (go_simp; rfl) | go_simp
            simp only [List.setIfInBounds_toArray, List.set_cons_zero, List.set_cons_succ]
            refine lx_skip 2 (by kernel_rfl) (fun _ _ d _ _ h => by cases d <;> exact h) (by kernel_rfl) HS rfl rfl rfl ?_
            simp only [List.setIfInBounds_toArray, List.set_cons_zero, List.set_cons_succ]
            refine lx_skip 3 (by kernel_rfl) (fun _ _ d _ _ h => by cases d <;> exact h) (by kernel_rfl) HS rfl rfl rfl ?_
            simp only [List.setIfInBounds_toArray, List.set_cons_zero, List.set_cons_succ]
            refine lx_skip 4 (by kernel_rfl) (fun _ _ d _ _ h => by cases d <;> exact h) (by kernel_rfl) HS rfl rfl rfl ?_
            simp only [List.setIfInBounds_toArray, List.set_cons_zero, List.set_cons_succ]
            refine lx_skip 5 (by kernel_rfl) (fun _ _ d _ _ h => by cases d <;> exact h) (by kernel_rfl) HS rfl rfl rfl ?_
            simp only [List.setIfInBounds_toArray, List.set_cons_zero, List.set_cons_succ]
            refine lx_skip 6 (by kernel_rfl) (fun _ _ d _ _ h => by cases d <;> exact h) (by kernel_rfl) HS rfl rfl rfl ?_
            simp only [List.setIfInBounds_toArray, List.set_cons_zero, List.set_cons_succ]
            refine lx_skip 7 (by kernel_rfl) (fun _ _ d _ _ h => by cases d <;> exact h) (by kernel_rfl) HS rfl rfl rfl ?_
            simp only [List.setIfInBounds_toArray, List.set_cons_zero, List.set_cons_succ]
            refine lx_skip 8 (by kernel_rfl) (fun _ _ d _ _ h => by cases d <;> exact h) (by kernel_rfl) HS rfl rfl rfl ?_
            simp only [List.setIfInBounds_toArray, List.set_cons_zero, List.set_cons_succ]
            refine lx_rd 9 ?vAt9 (by kernel_rfl) (fun _ _ d _ _ h => by cases d <;> exact h) (by kernel_rfl) HS rfl rfl rfl (fun w' hS => ?hAt9) ?_
            case hAt9 => first | (go_simp; rfl) | go_simp
            simp only [List.setIfInBounds_toArray, List.set_cons_zero, List.set_cons_succ]
            refine lx_rd 10 ?vAt10 (by kernel_rfl) (fun _ _ d _ _ h => by cases d <;> exact h) (by kernel_rfl) HS rfl rfl rfl (fun w' hS => ?hAt10) ?_
            case hAt10 => first | (go_simp; rfl) | go_simp
            simp only [List.setIfInBounds_toArray, List.set_cons_zero, List.set_cons_succ]
            refine lx_nil (by kernel_rfl) ?_
            go_wp2
            go_roundw
            case rel => exact ⟨j + 1, by omega, by go_num, by rw [HN.out]; rfl, hbd⟩
            case measure => simp [intOf]; omega
          | false =>
            go_upto_region 17 with fail
            refine wp_region_lx (fun _ => True) [] 11 (by kernel_rfl) (by kernel_rfl) ?_
            have hbd := hbx.drew
            clear hbx
            generalize World.drew _ = W5 at hbd ⊢
            have HS : (fun _ : World => True) W5 := trivial
            refine lx_rd 0 ?vAf0 (by kernel_rfl) (fun _ _ d _ _ h => by cases d <;> exact h) (by kernel_rfl) HS rfl rfl rfl (fun w' hS => ?hAf0) ?_
            case hAf0 => first | (go_simp; rfl) | go_simp
            simp only [List.setIfInBounds_toArray, List.set_cons_zero, List.set_cons_succ]
            refine lx_rd 1 ?vAf1 (by kernel_rfl) (fun _ _ d _ _ h => by cases d <;> exact h) (by kernel_rfl) HS rfl rfl rfl (fun w' hS => ?hAf1) ?_
            case hAf1 => first | (go_simp; rfl) | go_simp
            simp only [List.setIfInBounds_toArray, List.set_cons_zero, List.set_cons_succ]
            refine lx_rd 2 ?vAf2 (by kernel_rfl) (fun _ _ d _ _ h => by cases d <;> exact h) (by kernel_rfl) HS rfl rfl rfl (fun w' hS => ?hAf2) ?_
            case hAf2 => first | (go_simp; rfl) | go_simp
            simp only [List.setIfInBounds_toArray, List.set_cons_zero, List.set_cons_succ]
            refine lx_rd 3 ?vAf3 (by kernel_rfl) (fun _ _ d _ _ h => by cases d <;> exact h) (by kernel_rfl) HS rfl rfl rfl (fun w' hS => ?hAf3) ?_
            case hAf3 => first | (go_simp; rfl) | go_simp
            simp only [List.setIfInBounds_toArray, List.set_cons_zero, List.set_cons_succ]
            refine lx_rd 4 (.int .u8 xx) (by kernel_rfl) (fun _ _ d _ _ h => by cases d <;> exact h) (by kernel_rfl) HS rfl rfl rfl (fun w' hS => ?hAf4) ?_
            case hAf4 => first | (go_simp; rfl) | go_simp
            simp only [List.setIfInBounds_toArray, List.set_cons_zero, List.set_cons_succ]
            refine lx_rd 5 ?vAf5 (by kernel_rfl) (fun _ _ d _ _ h => by cases d <;> exact h) (by kernel_rfl) HS rfl rfl rfl (fun w' hS => ?hAf5) ?_
            case hAf5 => first | (go_simp; rfl) | go_simp
            simp only [List.setIfInBounds_toArray, List.set_cons_zero, List.set_cons_succ]
            refine lx_rd 6 ?vAf6 (by kernel_rfl) (fun _ _ d _ _ h => by cases d <;> exact h) (by kernel_rfl) HS rfl rfl rfl (fun w' hS => ?hAf6) ?_
            case hAf6 => first | (go_simp; rfl) | go_simp
            simp only [List.setIfInBounds_toArray, List.set_cons_zero, List.set_cons_succ]
            refine lx_rd 7 (.int .u8 cc) (by kernel_rfl) (fun _ _ d _ _ h => by cases d <;> exact h) (by kernel_rfl) HS rfl rfl rfl (fun w' hS => ?hAf7) ?_
            case hAf7 => first | (go_simp; rfl) | go_simp
            simp only [List.setIfInBounds_toArray, List.set_cons_zero, List.set_cons_succ]
            refine lx_rd 8 (.bool (xx == cc)) (by kernel_rfl) (fun _ _ d _ _ h => by cases d <;> exact h) (by kernel_rfl) HS rfl rfl rfl (fun w' hS => ?hAf8) ?_
            case hAf8 => first | (go_simp; rfl) | go_simp
            simp only [List.setIfInBounds_toArray, List.set_cons_zero, List.set_cons_succ]
            refine lx_rd 9 (.bool (xx == cc)) (by kernel_rfl) (fun _ _ d _ _ h => by cases d <;> exact h) (by kernel_rfl) HS rfl rfl rfl (fun w' hS => ?hAf9) ?_
            case hAf9 => first | (go_simp; rfl) | go_simp
            simp only [List.setIfInBounds_toArray, List.set_cons_zero, List.set_cons_succ]
            refine lx_rd 10 ?vAf10 (by kernel_rfl) (fun _ _ d _ _ h => by cases d <;> exact h) (by kernel_rfl) HS rfl rfl rfl (fun w' hS => ?hAf10) ?_
            case hAf10 => first | (go_simp; rfl) | go_simp
            simp only [List.setIfInBounds_toArray, List.set_cons_zero, List.set_cons_succ]
            refine lx_nil (by kernel_rfl) ?_
            go_wp2
            go_roundw
            case rel => exact ⟨j + 1, by omega, by go_num, by rw [HN.out]; rfl, hbd⟩
            case measure => simp [intOf]; omega
        · obtain rfl : j = P.size := by omega
          rw [List.take_of_length_le (by rw [nums_len]; exact Nat.le_refl _)]
          have hzx := hz4.carry hbx
          obtain ⟨q0, q1, q2, q3, q4, q5, q6, q7⟩ := hzx
          have cC := check_any kk id (rowA i) (rowB i) (rowT i) (rla wc.heap.size i) (rln i) (rln i) (rowN i) (rowF i) (rowL i) _ (hL4.carry hbx) (hS4.carry hbx) (by omega) (by omega) (by omega)
          have hbz := hb.trans ((hb4.trans (hbx.mono hb4.size)).mono hb.size)
          cases hd : dash kk with
          | true =>
            have hd' : (P.toList == [45]) = true := HD.out.symm.trans hd
            rw [HO1'.out hd] at cC
            clear hd HD HO1' HO2' hS4 hL4 hz4
            go_wp2_with (go_at_call 11; refine cC.mono ?_; rintro e w6 ⟨rfl, hb6⟩)
            go_roundw
            case rel => exact ⟨i + 1, by omega, by go_num, hbz.trans (hb6.mono hbz.size)⟩
            case measure => simp [intOf]; omega
          | false =>
            have hd' : (P.toList == [45]) = false := HD.out.symm.trans hd
            rcases HO2'.out hd with ⟨he, hh⟩ | ⟨he, hh⟩
            · rw [he] at cC
              rw [hh]
              clear hd HD HO1' HO2' hS4 hL4 hz4 he hh
              go_wp2_with (go_at_call 11; refine cC.mono ?_; rintro e w6 ⟨rfl, hb6⟩)
              go_roundw
              case rel => exact ⟨i + 1, by omega, by go_num, hbz.trans (hb6.mono hbz.size)⟩
              case measure => simp [intOf]; omega
            · rw [he] at cC
              rw [hh]
              clear hd HD HO1' HO2' hS4 hL4 hz4 he hh
              go_wp2_with (go_at_call 11; refine cC.mono ?_; rintro e w6 ⟨rfl, hb6⟩)
              go_roundw
              case rel => exact ⟨i + 1, by omega, by go_num, hbz.trans (hb6.mono hbz.size)⟩
              case measure => simp [intOf]; omega
    · have hge : ¬ (i : Int) < 7 := by omega
      have hbw := hb3.trans (hb.mono hb3.size)
      go_wp2_with (go_at_call 14; refine (wakes_any _ (hL.carry hbw)).mono ?_; rintro e w6 ⟨rfl, hb6⟩)
      go_ret
      exact ⟨rfl, hbw.trans (hb6.mono hbw.size)⟩

end Go.Proofs.YtomkcmkbehcjnaaDoor.stanzaParts
