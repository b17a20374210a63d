/- Texts of one seat, one behind the other: NmLaid, Bytes, OwnA, Ext, Late, SuA, SuB, SuC, SuD, SuE, SuF, SuG. -/
import Derived.Test.YtppdopcghnfapaaGreatDoorRows
import Derived.Shelf.Unicode.ValidAny
import Derived.ProofKit
import Derived.OpenShut
import Derived.Deep.DeepHandedRow
import Derived.Lib.LaidTab
import Derived.Test.YtppdopcghnfapaaGreatDoorProg
import Derived.WalkKit
import Derived.WalkLawsBesides
import Derived.WalkSpells
import Derived.Laws.AppendOwnNone
import Derived.Deep.CutRange
import Derived.Deep.QuietTactic
import Derived.BigQuiet
import Derived.RangeFuncBox
import Derived.OrdersHeld
import Derived.Below
import Derived.BigRegion
import Derived.Defers
import Derived.Recover
import Derived.Laws.Pointers
import Derived.Lib.SmallJoins
import Derived.Shelf.Abstract
/- What the rows' list gives: Go's two tables of UTF-8, cell for cell. -/
set_option maxRecDepth 100000
namespace Go.Proofs.YtppdopcghnfapaaGreatDoor.Nm
open Go.ChangeShapes Go.WideShapes Go.ChangeAt Go.RowKit

theorem gFirst : Tryz.prog.globalNamed "unicode/utf8.first" = some 2 := by kernel_rfl
theorem gAcc : Tryz.prog.globalNamed "unicode/utf8.acceptRanges" = some 3 := by kernel_rfl
theorem gFirstType : (Tryz.prog.globals[2]?).map (·.type) = some 168 := by kernel_rfl
theorem gAccType : (Tryz.prog.globals[3]?).map (·.type) = some 171 := by kernel_rfl
theorem cellsFirst : Tryz.prog.cellsOf 168 = 256 := by kernel_rfl
theorem cellsAcc : Tryz.prog.cellsOf 170 = 2 := by kernel_rfl
theorem cellsByte1 : Tryz.prog.cellsOf 5 = 1 := by kernel_rfl

def firstTab : List Int := Go.Pinned.utf8FirstZ.map fun (n : Nat) => (n : Int)
theorem first_eq : Rows.laid_unicode_utf8_first = Lib.tabData .u8 firstTab := by
  simp only [Rows.laid_unicode_utf8_first, Go.Pinned.utf8First, Go.Pinned.numbers, Lib.tabData, firstTab, List.map_map]
  rfl
theorem first_len : firstTab.length = 256 := by decide +kernel
theorem first_at : ∀ c : Nat, c < 256 → firstTab.getD c 0 = ((Lib.firstT c : Nat) : Int) := by decide +kernel

def accTab : List (Int × Int) := [(128, 191), (160, 191), (128, 159), (144, 191), (128, 143), (0, 0), (0, 0), (0, 0), (0, 0), (0, 0), (0, 0), (0, 0), (0, 0), (0, 0), (0, 0), (0, 0)]
theorem acc_eq : (Rows.laid_unicode_utf8_acceptRanges : DataW Unit) = .agg (accTab.map fun x => .agg [.lit (.int .u8 x.1), .lit (.int .u8 x.2)]) := rfl
theorem acc_at : ∀ i : Nat, i < 16 → (accTab.getD i (0, 0)) = (((Lib.accLo i : Nat) : Int), ((Lib.accHi i : Nat) : Int)) := by decide +kernel

theorem tabs_of {W : World} (h : laidMetH Tryz.prog [("unicode/utf8.acceptRanges", Rows.laid_unicode_utf8_acceptRanges), ("unicode/utf8.first", Rows.laid_unicode_utf8_first)] W) : Lib.Utf8Tabs 2 3 W := by
  have h' : laidMet Tryz.prog [("unicode/utf8.acceptRanges", Rows.laid_unicode_utf8_acceptRanges), ("unicode/utf8.first", Rows.laid_unicode_utf8_first)] W := h
  obtain ⟨ps, ⟨g1, t1, cs1, fuel1, p1, q1, hg1, ht1, hv1, hd1, hr1, _⟩, _⟩ := h'
  obtain rfl := Option.some.inj (gAcc.symm.trans hg1)
  obtain rfl := Option.some.inj (gAccType.symm.trans ht1)
  obtain ⟨g2, t2, cs2, fuel2, p2, q2, hg2, ht2, hv2, hd2, _, _⟩ := hr1
  obtain rfl := Option.some.inj (gFirst.symm.trans hg2)
  obtain rfl := Option.some.inj (gFirstType.symm.trans ht2)
  rw [first_eq] at hd2
  have hc2 := Lib.cells_of_tab Tryz.underlying168 Tryz.underlying5 cellsByte1 cellsFirst hd2
  rw [acc_eq] at hd1
  obtain ⟨ys, m, _, hx, _, hlen, hel⟩ := DataW.trod_array Tryz.underlying171 hd1
  have hxs : ys.map (·.1) = accTab.map fun x => (DataW.agg [.lit (.int .u8 x.1), .lit (.int .u8 x.2)] : DataW Unit) := by
    have := congrArg Prod.fst hx
    simpa using this.symm
  have hat : ∀ i, i < 16 → cs1.toList[i * 2]? = some (.int .u8 ((Lib.accLo i : Nat) : Int)) ∧ cs1.toList[i * 2 + 1]? = some (.int .u8 ((Lib.accHi i : Nat) : Int)) := by
    intro i hi
    have h1 := hel i hi
    rw [cellsAcc] at h1
    have hil : i < ys.length := by omega
    rw [List.getElem?_eq_getElem hil] at h1
    obtain ⟨y0, y1, k, hy, _, f0, f1⟩ := trod_struct2 Tryz.underlying170 h1
    simp only [cellsByte1, List.drop_zero] at f0 f1
    obtain ⟨z0, e0, e0', _⟩ := DataW.trod_int Tryz.underlying5 f0
    obtain ⟨z1, e1, e1', _⟩ := DataW.trod_int Tryz.underlying5 f1
    have h2 : (ys.map (·.1))[i]? = some (DataW.agg [.lit (.int .u8 z0), .lit (.int .u8 z1)] : DataW Unit) := by
      rw [List.getElem?_map, List.getElem?_eq_getElem hil, hy, e0', e1']; rfl
    rw [hxs, List.getElem?_map] at h2
    have h3 : accTab[i]? = some (accTab.getD i (0, 0)) := by
      have : i < accTab.length := hi
      rw [List.getD, List.getElem?_eq_getElem this]; rfl
    rw [h3, acc_at i hi] at h2
    simp only [Option.map_some, Option.some.injEq, DataW.agg.injEq, List.cons.injEq, DataW.lit.injEq, Lit.int.injEq, true_and, and_true] at h2
    rw [h2.1, h2.2]
    constructor
    · have := congrArg (·[0]?) e0
      simpa [List.getElem?_take, List.getElem?_drop] using this
    · have := congrArg (·[0]?) e1
      simpa [List.getElem?_take, List.getElem?_drop] using this
  refine ⟨fun c hc => ?_, fun i hi => ⟨?_, ?_⟩⟩
  · rw [World.var?_cell gFirst hv2 c, ← Array.getElem?_toList, hc2, List.getElem?_map]
    have hlen : c < firstTab.length := by rw [first_len]; exact hc
    rw [List.getElem?_eq_getElem hlen]
    have := first_at c hc
    simp [List.getD, List.getElem?_eq_getElem hlen] at this
    simp [this]
  · rw [World.var?_cell gAcc hv1, ← Array.getElem?_toList, Nat.mul_comm]
    exact (hat i hi).1
  · rw [World.var?_cell gAcc hv1, ← Array.getElem?_toList, Nat.mul_comm]
    exact (hat i hi).2

end Go.Proofs.YtppdopcghnfapaaGreatDoor.Nm

/- Slices of bytes, as lists of numbers: what a slice reads as, how that lasts, and the forms of numbers as lists. -/
namespace Go.Proofs.YtppdopcghnfapaaGreatDoor
open Go.RowKit

theorem Tryz.info5 : (Tryz.prog.info? 5).map (fun i => (i.zero, i.size, i.bytes)) = some (some (.int .u8 0), 1, 1) := by kernel_rfl

def Bd (xs : List Int) : Prop := ∀ x ∈ xs, 0 ≤ x ∧ x ≤ 255

/-- The cells of some bytes. -/
def bc (xs : List Int) : List Value := xs.map (Value.int .u8)

theorem bc_len (xs : List Int) : (bc xs).length = xs.length := by simp [bc]
theorem bc_append (xs ys : List Int) : bc (xs ++ ys) = bc xs ++ bc ys := by simp [bc]
theorem bc_one (xs : List Int) : ∀ u ∈ bc xs, u.oneCell' = true := by
  intro u hu; simp [bc] at hu; obtain ⟨x, _, rfl⟩ := hu; rfl

theorem Bd.append {xs ys : List Int} (h : Bd xs) (k : Bd ys) : Bd (xs ++ ys) := by
  intro x hx; rcases List.mem_append.1 hx with g | g
  · exact h x g
  · exact k x g
theorem Bd.nil : Bd [] := by intro x hx; cases hx
theorem Bd.take {xs : List Int} (h : Bd xs) (n : Nat) : Bd (xs.take n) := fun x hx => h x (List.mem_of_mem_take hx)
theorem Bd.drop {xs : List Int} (h : Bd xs) (n : Nat) : Bd (xs.drop n) := fun x hx => h x (List.mem_of_mem_drop hx)
theorem Bd.get {xs : List Int} (h : Bd xs) (j : Nat) : 0 ≤ xs.getD j 0 ∧ xs.getD j 0 ≤ 255 := by
  by_cases hj : j < xs.length
  · have e : xs.getD j 0 = xs[j] := by simp [List.getD, List.getElem?_eq_getElem hj]
    rw [e]; exact h _ (List.getElem_mem hj)
  · have e : xs.getD j 0 = 0 := by simp [List.getD, List.getElem?_eq_none (by omega : xs.length ≤ j)]
    rw [e]; omega

/-- What a slice of bytes reads as. -/
structure Rd (w : World) (a : Option Addr) (n c : Nat) (xs : List Int) : Prop where
  len : xs.length = n
  cap : n ≤ c
  most : c ≤ maxLen
  nil : a = none → c = 0
  bytes : Bd xs
  cells : ∀ ad, a = some ad → ∀ j, j < n → w.cell? (ad.add j) = some (.int .u8 (xs.getD j 0))

theorem Rd.carry {w w' : World} {a : Option Addr} {n c : Nat} {xs : List Int} (h : Rd w a n c xs) {B : Nat} (hB : w.heap.size ≤ B) (hb : Below B w w') : Rd w' a n c xs :=
  ⟨h.len, h.cap, h.most, h.nil, h.bytes, fun ad ha j hj => by
    have hc := h.cells ad ha j hj
    rw [hb.cell (Nat.lt_of_lt_of_le (World.block_lt_of_cell? w _ hc) hB)]; exact hc⟩

theorem Rd.news {w : World} {a : Option Addr} {n c : Nat} {xs : List Int} (h : Rd w a n c xs) {ad : Addr} (ha : a = some ad) : ∀ j u, (bc xs)[j]? = some u → w.cell? (ad.add j) = some u := by
  intro j u hj
  have hjl : j < xs.length := by
    rcases Nat.lt_or_ge j xs.length with g | g
    · exact g
    · rw [List.getElem?_eq_none (by simpa [bc] using g)] at hj; cases hj
  rw [h.cells ad ha j (by rw [← h.len]; exact hjl)]
  simp [bc, List.getElem?_eq_getElem hjl] at hj
  simp [List.getD, List.getElem?_eq_getElem hjl, hj]

theorem Rd.ofOwn {w : World} {base : Nat} {v : Value} {n : Nat} {xs : List Int} (h : w.ownsRow base 5 1 v n (bc xs)) (hb : Bd xs) : ∃ a c, v = .slice a n c ∧ Rd w a n c xs := by
  have hl : xs.length = n := by have := h.1; simpa [bc_len] using this
  rcases h.2 with ⟨hv, hn⟩ | ⟨g, cap, cur, hv, hg, hh, hnc, hm, hs, ht⟩
  · subst hv; subst hn
    exact ⟨none, 0, rfl, hl, Nat.le_refl _, by unfold maxLen; omega, fun _ => rfl, hb, fun ad ha => by cases ha⟩
  · subst hv
    refine ⟨some ⟨g, 0, none⟩, cap, rfl, hl, hnc, hm, (fun ha => by cases ha), hb, fun ad ha j hj => ?_⟩
    have hcell := h.cells (g := g) rfl j (.int .u8 (xs.getD j 0)) (by
      have : j < xs.length := by omega
      simp [bc, List.getD, List.getElem?_eq_getElem this])
    cases ha
    exact hcell

/-- 'string(b)'. -/
theorem Rd.string {w : World} {a : Option Addr} {n c : Nat} {xs : List Int} (h : Rd w a n c xs) : (convert 172 9 (.slice a n c)).run Tryz.prog w = .ok (.string (strOfNums xs)) w := by
  cases a with
  | none =>
    have hc := h.nil rfl
    have hn := h.cap
    have hx : xs = [] := List.eq_nil_of_length_eq_zero (by rw [h.len]; omega)
    subst hx
    rw [run_convert_bytes_nil w 172 5 Tryz.underlying172 Tryz.underlying5 n c 9 Tryz.underlying9]
    rfl
  | some ad =>
    have hl : (loadCells ad n).run Tryz.prog w = .ok (xs.map (Value.int .u8)).toArray w := by
      have := run_loadCells_list (P := Tryz.prog) w ad (xs.map (Value.int .u8)) (h.news rfl)
      simpa [h.len] using this
    rw [run_convert_bytes_string w 172 9 5 _ n c Tryz.underlying172 Tryz.underlying5 Tryz.underlying9, run_bytesToString w _ n c xs hl, foldl_push_bytes]
    simp [strOfNums, ByteArray.empty, ByteArray.emptyWithCapacity]
    rfl

theorem str_inj {xs ys : List Int} (hx : Bd xs) (hy : Bd ys) (h : strOfNums xs = strOfNums ys) : xs = ys := by
  have h1 : xs.map (fun n => UInt8.ofNat n.toNat) = ys.map (fun n => UInt8.ofNat n.toNat) := by
    have := congrArg (fun b => b.data.toList) h
    simpa [strOfNums] using this
  have key : ∀ zs : List Int, Bd zs → (zs.map (fun n => UInt8.ofNat n.toNat)).map (fun c => (c.toNat : Int)) = zs := by
    intro zs hz
    rw [List.map_map]
    conv => rhs; rw [← List.map_id zs]
    refine List.map_congr_left fun x hx => ?_
    have := hz x hx
    simp only [Function.comp, id]
    rw [UInt8.toNat_ofNat']
    omega
  rw [← key xs hx, ← key ys hy, h1]

theorem str_append (xs ys : List Int) : strOfNums xs ++ strOfNums ys = strOfNums (xs ++ ys) := by
  apply ByteArray.ext
  simp [strOfNums]

theorem own_snoc {w : World} {B : Nat} {v : Value} {pre : List Int} {x : Int} (h : w.ownsRow B 5 1 v (pre.length + 1) (bc pre ++ [.int .u8 x])) : w.ownsRow B 5 1 v (pre ++ [x]).length (bc (pre ++ [x])) := by
  simpa [bc] using h

theorem below_step {B : Nat} {w wr w1 : World} {o : Obj} {v : Value} {n : Nat} {xs : List Value} (hbel : Below B w wr) (hB : B ≤ wr.heap.size) (hown : wr.ownsRow B 5 1 v n xs) (hg : (wr.alloc o).grownBy w1 v.ownBlock) : Below B w w1 :=
  (hbel.alloc hB o).grown hg (by simp; omega) (fun k hk => (hown.lt k hk).1)

theorem add_flat (b off j : Nat) : (⟨b, off, none⟩ : Addr).add j = ⟨b, off + j, none⟩ := by unfold Addr.add; split <;> simp_all

theorem Rd.flat {w : World} {a : Option Addr} {n c : Nat} {xs : List Int} (h : Rd w a n c xs) (hn : 0 < n) : ∃ b off, a = some ⟨b, off, none⟩ ∧ ∀ j, j < n → w.cell? ⟨b, off + j, none⟩ = some (.int .u8 (xs.getD j 0)) := by
  cases a with
  | none => have := h.nil rfl; have := h.cap; omega
  | some ad =>
    obtain ⟨b, off, spot⟩ := ad
    have hc := h.cells _ rfl 0 hn
    have hspot : spot = none := by simpa [Addr.add] using World.cell?_spot hc
    subst hspot
    refine ⟨b, off, rfl, fun j hj => ?_⟩
    have := h.cells _ rfl j hj
    have hplain : (⟨b, off, none⟩ : Addr).add j = ⟨b, off + j, none⟩ := by unfold Addr.add; split <;> simp_all
    rw [hplain] at this
    exact this

/-! ### The form of a number -/
def formF : Nat → Nat → List Int
  | 0, n => [(n : Int)]
  | f + 1, n => if n < 128 then [(n : Int)] else ((n % 128 + 128 : Nat) : Int) :: formF f (n / 128)
def form (n : Nat) : List Int := formF n n

theorem formF_eq : ∀ f g n, n ≤ f → n ≤ g → formF f n = formF g n
  | 0, 0, _, _, _ => rfl
  | 0, g + 1, n, h, _ => by rw [formF, formF, if_pos (by omega)]
  | f + 1, 0, n, _, h => by rw [formF, formF, if_pos (by omega)]
  | f + 1, g + 1, n, h, h' => by
    rw [formF, formF]
    by_cases hn : n < 128
    · rw [if_pos hn, if_pos hn]
    · rw [if_neg hn, if_neg hn, formF_eq f g (n / 128) (by omega) (by omega)]

theorem form_small {n : Nat} (h : n < 128) : form n = [(n : Int)] := by
  unfold form
  cases n with
  | zero => rfl
  | succ m => rw [formF, if_pos h]
theorem form_big {n : Nat} (h : ¬ n < 128) : form n = ((n % 128 + 128 : Nat) : Int) :: form (n / 128) := by
  unfold form
  cases n with
  | zero => omega
  | succ m => rw [formF, if_neg h, formF_eq m ((m + 1) / 128) _ (by omega) (by omega)]
theorem form_induct {motive : Nat → Prop} (case1 : ∀ n, n < 128 → motive n) (case2 : ∀ n, ¬ n < 128 → motive (n / 128) → motive n) (n : Nat) : motive n := by
  have key : ∀ f n, n ≤ f → motive n := by
    intro f
    induction f with
    | zero => intro n h; exact case1 n (by omega)
    | succ f ih =>
      intro n h
      by_cases hn : n < 128
      · exact case1 n hn
      · exact case2 n hn (ih _ (by omega))
  exact key n n (Nat.le_refl _)

theorem form_bd (n : Nat) : Bd (form n) := by
  induction n using form_induct with
  | case1 n h => rw [form_small h]; intro x hx; simp at hx; omega
  | case2 n h ih =>
    rw [form_big h]; intro x hx
    rcases List.mem_cons.1 hx with g | g
    · subst g; omega
    · exact ih x g

theorem form_len (n k : Nat) (h : n < 2 ^ (7 * (k + 1))) : (form n).length ≤ k + 1 := by
  induction k generalizing n with
  | zero => rw [form_small (by simpa using h)]; simp
  | succ k ih =>
    by_cases hn : n < 128
    · rw [form_small hn]; simp
    · rw [form_big hn]
      have : n / 128 < 2 ^ (7 * (k + 1)) := by
        rw [Nat.div_lt_iff_lt_mul (by omega)]
        have e : 2 ^ (7 * (k + 1 + 1)) = 2 ^ (7 * (k + 1)) * 128 := by rw [Nat.mul_add 7 (k + 1) 1, Nat.pow_add]
        omega
      have := ih _ this
      simp; omega

theorem form_len10 (n : Nat) (h : n < 18446744073709551616) : (form n).length ≤ 10 := form_len n 9 (by
  have : (2 : Nat) ^ (7 * (9 + 1)) = 1180591620717411303424 := by decide
  omega)
theorem form_pos (n : Nat) : 1 ≤ (form n).length := by
  by_cases h : n < 128
  · rw [form_small h]; simp
  · rw [form_big h]; simp

/-! ### Reading a number: what it is, how many bytes it takes, the error's number -/
def scan : List Int → Nat → Nat → Nat × Nat × Nat
  | [], _, _ => (0, 0, 2)
  | c :: r, i, acc =>
    if i = 9 ∧ 1 < c then (0, 0, 3)
    else if 128 ≤ c then scan r (i + 1) (acc + (c % 128).toNat * 2 ^ (7 * i))
    else if c = 0 ∧ 0 < i then (0, 0, 2)
    else (acc + (c % 128).toNat * 2 ^ (7 * i), i + 1, 0)

theorem scan_far {z : Int} {r : List Int} {acc : Nat} (h : 1 < z) : scan (z :: r) 9 acc = (0, 0, 3) := by rw [scan, if_pos ⟨rfl, h⟩]
theorem scan_more {z : Int} {r : List Int} {k acc : Nat} (h : ¬ (k = 9 ∧ 1 < z)) (h1 : 128 ≤ z) : scan (z :: r) k acc = scan r (k + 1) (acc + (z % 128).toNat * 2 ^ (7 * k)) := by rw [scan, if_neg h, if_pos h1]
theorem scan_zero {r : List Int} {k acc : Nat} (h : 0 < k) : scan (0 :: r) k acc = (0, 0, 2) := by rw [scan, if_neg (by omega), if_neg (by omega), if_pos ⟨rfl, h⟩]
theorem scan_end {z : Int} {r : List Int} {k acc : Nat} (h : ¬ (k = 9 ∧ 1 < z)) (h1 : ¬ 128 ≤ z) (h2 : ¬ (z = 0 ∧ 0 < k)) : scan (z :: r) k acc = (acc + (z % 128).toNat * 2 ^ (7 * k), k + 1, 0) := by rw [scan, if_neg h, if_neg h1, if_neg h2]

theorem or_val {acc k : Nat} {z : Int} (h0 : 0 ≤ z) (h1 : z ≤ 255) (hk : k ≤ 9) (h9 : k = 9 → z ≤ 1) (hacc : acc < 2 ^ (7 * k)) :
    bits .or .u64 (acc : Int) (IntKind.u64.wrap (z % 128 * 2 ^ (7 * k))) = ((acc + (z % 128).toNat * 2 ^ (7 * k) : Nat) : Int) ∧ acc + (z % 128).toNat * 2 ^ (7 * k) < 2 ^ (7 * (k + 1)) ∧ acc + (z % 128).toNat * 2 ^ (7 * k) < 18446744073709551616 := by
  obtain ⟨d, hd, hd1⟩ : ∃ d : Nat, z % 128 = (d : Int) ∧ d < 128 := ⟨(z % 128).toNat, by omega, by omega⟩
  rw [hd]
  have e3 : ((d : Int)).toNat = d := by omega
  rw [e3]
  have hp : 0 < 2 ^ (7 * k) := Nat.two_pow_pos _
  have hmul : d * 2 ^ (7 * k) + 2 ^ (7 * k) ≤ 18446744073709551616 := by
    rcases Nat.lt_or_ge k 9 with g | g
    · have h56 : (2 : Nat) ^ 56 = 72057594037927936 := by decide
      have : 2 ^ (7 * k) ≤ 2 ^ 56 := Nat.pow_le_pow_right (by omega) (by omega)
      rw [h56] at this
      have h2 : d * 2 ^ (7 * k) ≤ 127 * 72057594037927936 := Nat.mul_le_mul (by omega) this
      omega
    · have hk9 : k = 9 := by omega
      subst hk9
      have := h9 rfl
      have : d ≤ 1 := by omega
      have e9 : (2 : Nat) ^ (7 * 9) = 9223372036854775808 := by decide
      rw [e9]
      omega
  have hsum : acc + d * 2 ^ (7 * k) < 18446744073709551616 := by omega
  refine ⟨?_, ?_, hsum⟩
  · have e1 : ((d : Int) * 2 ^ (7 * k)) = ((d * 2 ^ (7 * k) : Nat) : Int) := by simp
    have e4 : IntKind.u64.wrap ((d * 2 ^ (7 * k) : Nat) : Int) = ((d * 2 ^ (7 * k) : Nat) : Int) := by rw [IntKind.wrap_u64]; omega
    rw [e1, e4, u64_or_nat _ _ (by omega) (by omega)]
    congr 1
    rw [Nat.or_comm, ← Nat.shiftLeft_eq, ← Nat.shiftLeft_add_eq_or_of_lt hacc]
    omega
  · have e2 : 2 ^ (7 * (k + 1)) = 128 * 2 ^ (7 * k) := by rw [Nat.mul_add 7 k 1, Nat.pow_add, Nat.mul_comm]
    have h2 : d * 2 ^ (7 * k) ≤ 127 * 2 ^ (7 * k) := Nat.mul_le_mul (by omega) (Nat.le_refl _)
    omega

theorem ret3 {k1 k2 k3 : IntKind} {a b c a' b' c' : Int} (h1 : a = a') (h2 : b = b') (h3 : c = c') : Ending.returned (.tuple #[.int k1 a, .int k2 b, .int k3 c]) = .returned (.tuple #[.int k1 a', .int k2 b', .int k3 c']) := by rw [h1, h2, h3]

end Go.Proofs.YtppdopcghnfapaaGreatDoor

/- What a call keeps of memory; append of bytes with its place told: the base of the Own texts in a seat without FrBase. -/
namespace Go.Proofs.YtppdopcghnfapaaGreatDoor
open Go.RowKit

/-! ### What is kept: every old block but those of S -/
structure Keep (S : Nat → Prop) (w w' : World) : Prop where
  os : w'.os = w.os
  tape : w'.tape = w.tape
  output : w'.output = w.output
  size : w.heap.size ≤ w'.heap.size
  block : ∀ k, k < w.heap.size → ¬ S k → w'.heap[k]? = w.heap[k]?

theorem Keep.refl (S : Nat → Prop) (w : World) : Keep S w w := ⟨rfl, rfl, rfl, Nat.le_refl _, fun _ _ _ => rfl⟩
theorem Keep.trans {S : Nat → Prop} {a b c : World} (h : Keep S a b) (k : Keep S b c) : Keep S a c :=
  ⟨k.os.trans h.os, k.tape.trans h.tape, k.output.trans h.output, Nat.le_trans h.size k.size, fun i hi hs => (k.block i (Nat.lt_of_lt_of_le hi h.size) hs).trans (h.block i hi hs)⟩
/-- What the second step may turn must be let by the first's word, or be new. -/
theorem Keep.andThen {S T : Nat → Prop} {a b c : World} (h : Keep S a b) (k : Keep T b c) (hT : ∀ i, i < a.heap.size → T i → S i) : Keep S a c :=
  ⟨k.os.trans h.os, k.tape.trans h.tape, k.output.trans h.output, Nat.le_trans h.size k.size, fun i hi hs => (k.block i (Nat.lt_of_lt_of_le hi h.size) (fun t => hs (hT i hi t))).trans (h.block i hi hs)⟩
theorem Keep.mono {S T : Nat → Prop} {a b : World} (h : Keep S a b) (hST : ∀ i, S i → T i) : Keep T a b := ⟨h.os, h.tape, h.output, h.size, fun i hi hs => h.block i hi (fun s => hs (hST i s))⟩
theorem Keep.drew {S : Nat → Prop} {a b : World} (h : Keep S a b) : Keep S a b.drew := ⟨h.os, h.tape, h.output, h.size, h.block⟩
theorem Keep.ofGrown {w w' : World} {row : Option Nat} (h : w.grownBy w' row) : Keep (fun k => row = some k) w w' := ⟨h.os, h.tape, h.output, h.size, fun k hk hs => h.block k hk (fun e => hs e.symm)⟩
theorem Keep.ofBelow {S : Nat → Prop} {w w' : World} (h : Below w.heap.size w w') : Keep S w w' := ⟨h.os, h.tape, h.output, h.size, fun k hk _ => h.block k hk⟩
theorem Keep.below {S : Nat → Prop} {B : Nat} {w w' : World} (h : Keep S w w') (hB : B ≤ w.heap.size) (hS : ∀ k, S k → B ≤ k) : Below B w w' :=
  ⟨h.os, h.tape, h.output, h.size, fun k hk => h.block k (by omega) (fun s => by have := hS k s; omega)⟩
theorem Keep.alloc {S : Nat → Prop} {a w : World} (h : Keep S a w) (o : Obj) : Keep S a (w.alloc o) :=
  h.trans ⟨rfl, rfl, rfl, by simp, fun k hk _ => Below.heap_alloc _ _ _ hk⟩
theorem Keep.setCell {S : Nat → Prop} {a w : World} (h : Keep S a w) {p : Addr} (hp : S p.block) (u : Value) : Keep S a (w.setCell p u) :=
  h.trans ⟨rfl, rfl, rfl, by simp [World.setCell], fun k _ hs => Below.heap_setCell _ _ _ _ (fun e => hs (by rw [e]; exact hp))⟩
theorem Keep.setNew {S : Nat → Prop} {a w : World} (h : Keep S a w) {p : Addr} (hp : a.heap.size ≤ p.block) (u : Value) : Keep S a (w.setCell p u) :=
  h.andThen (T := fun k => k = p.block) ⟨rfl, rfl, rfl, by simp [World.setCell], fun k _ hs => Below.heap_setCell _ _ _ _ hs⟩ (fun i hi e => by omega)
theorem Keep.cell {S : Nat → Prop} {w w' : World} (h : Keep S w w') {p : Addr} {v : Value} (hc : w.cell? p = some v) (hs : ¬ S p.block) : w'.cell? p = some v :=
  (World.cell?_of_block (h.block p.block (World.block_lt_of_cell? w p hc) hs)).trans hc

theorem own_keep {S : Nat → Prop} {w w' : World} {B : Nat} {e : TypeId} {sz : Nat} {v : Value} {n : Nat} {xs : List Value} (h : w.ownsRow B e sz v n xs) (hk : Keep S w w') (hs : ∀ k, v.ownBlock = some k → ¬ S k) : w'.ownsRow B e sz v n xs := by
  obtain ⟨h1, h2⟩ := h
  refine ⟨h1, ?_⟩
  rcases h2 with h2 | ⟨g, cap, cur, hv, hg, hh, r⟩
  · exact Or.inl h2
  · refine Or.inr ⟨g, cap, cur, hv, hg, ?_, r⟩
    rw [hk.block g (Array.getElem?_eq_some_iff.1 hh).1 (hs g (by rw [hv]; rfl))]; exact hh

theorem own_weak {w : World} {B B' : Nat} {e : TypeId} {sz : Nat} {v : Value} {n : Nat} {xs : List Value} (h : w.ownsRow B e sz v n xs) (hB : B' ≤ B) : w.ownsRow B' e sz v n xs :=
  ⟨h.1, h.2.elim .inl (fun ⟨g, cap, cur, hv, hg, r⟩ => .inr ⟨g, cap, cur, hv, Nat.le_trans hB hg, r⟩)⟩
/-- A row owned from B on whose block lies from B' on. -/
theorem own_from {w : World} {B B' : Nat} {e : TypeId} {sz : Nat} {v : Value} {n : Nat} {xs : List Value} (h : w.ownsRow B e sz v n xs) (hB : ∀ k, v.ownBlock = some k → B' ≤ k) : w.ownsRow B' e sz v n xs :=
  ⟨h.1, h.2.elim .inl (fun ⟨g, cap, cur, hv, _, r⟩ => .inr ⟨g, cap, cur, hv, hB g (by rw [hv]; rfl), r⟩)⟩

theorem Rd.keep {S : Nat → Prop} {w w' : World} {a : Option Addr} {n c : Nat} {xs : List Int} (h : Rd w a n c xs) (hk : Keep S w w') (hs : ∀ ad, a = some ad → ¬ S ad.block) : Rd w' a n c xs :=
  ⟨h.len, h.cap, h.most, h.nil, h.bytes, fun ad ha j hj => by
    have hc := h.cells ad ha j hj
    exact hk.cell hc (by
      have : (ad.add j).block = ad.block := by unfold Addr.add; split <;> rfl
      rw [this]; exact hs ad ha)⟩

theorem rd_noneK {w : World} {a : Option Addr} {n c : Nat} {xs : List Int} (h : Rd w a n c xs) : a = none → n = 0 ∧ c = 0 := fun ha => by
  have := h.nil ha; have := h.cap; omega
theorem Rd.blk {w : World} {a : Option Addr} {n c : Nat} {xs : List Int} (h : Rd w a n c xs) (hn : 0 < n) {ad : Addr} (ha : a = some ad) : ad.block < w.heap.size := by
  have := World.block_lt_of_cell? w _ (h.cells ad ha 0 hn)
  have e : (ad.add 0).block = ad.block := by unfold Addr.add; split <;> rfl
  rwa [e] at this

theorem Rd.takeK {w : World} {a : Option Addr} {n c : Nat} {xs : List Int} (h : Rd w a n c xs) {k : Nat} (hk : k ≤ n) : Rd w a k c (xs.take k) := by
  refine ⟨by rw [List.length_take, h.len]; omega, by have := h.cap; omega, h.most, h.nil, h.bytes.take k, fun ad ha j hj => ?_⟩
  rw [h.cells ad ha j (by omega)]
  simp [List.getD, hj]

theorem Rd.drop {w : World} {b off n c : Nat} {xs : List Int} (h : Rd w (some ⟨b, off, none⟩) n c xs) {k : Nat} (hk : k ≤ n) : Rd w (some ⟨b, off + k, none⟩) (n - k) (c - k) (xs.drop k) := by
  refine ⟨by rw [List.length_drop, h.len], by have := h.cap; omega, by have := h.most; omega, (fun e => by cases e), h.bytes.drop k, fun ad ha j hj => ?_⟩
  cases ha
  have := h.cells _ rfl (k + j) (by omega)
  rw [add_flat] at this ⊢
  rw [← Nat.add_assoc] at this
  rw [this]
  simp [List.getD]

/-! ### append of bytes -/
set_option maxRecDepth 100000 in
theorem app_where {w : World} {base : Nat} {v : Value} {n : Nat} {xs : List Int} (hown : w.ownsRow base 5 1 v n (bc xs)) {ad : Addr} {m c : Nat} {ys : List Int} (hr : Rd w (some ad) m c ys) (hb : n + m ≤ 1000000000) {ty : TypeId} {v' : Value} {w' : World}
    (hrun : (Builtin.append_ #[172, 172] ty #[v, .slice (some ad) m c]).run Tryz.prog w = .ok v' w') : v'.ownBlock = v.ownBlock ∨ v'.ownBlock = some w.heap.size := by
  obtain ⟨i0, hi, hz0, hz1, hz2⟩ := info_parts Tryz.info5
  have hl : (bc ys).length = m * i0.size := by rw [bc_len, hr.len, hz1]; omega
  rcases hown.2 with ⟨rfl, rfl⟩ | ⟨g, cap, cur, rfl, hbg, hg, hnc, hcm, hcs, htake⟩
  · by_cases hm : m = 0
    · subst hm
      left
      simp [Builtin.append_, run_underlying Tryz.underlying172, sizeOf, typeInfo, hi, Builtin.lenOf, Builtin.firstCells, loadCells, loadCellsFrom] at hrun
      rw [← hrun.1]
    · right
      have hr2 := run_append_nil (P := Tryz.prog) w 172 ty 5 i0 (.int .u8 0) Tryz.underlying172 hi hz0 ad m c (bc ys) hl (hr.news rfl) (by omega) (by omega) (by rw [hz2]; omega)
      rw [hr2] at hrun
      injection hrun with e _
      rw [← e]; rfl
  · by_cases hroom : n + m ≤ cap
    · left
      have hr2 := run_append_room (P := Tryz.prog) w 172 ty 5 i0 Tryz.underlying172 hi g n cap cur hg ad m c (bc ys) hl (hr.news rfl) (bc_one ys) hroom (by rw [hl, hcs, hz1]; omega)
      rw [hr2] at hrun
      injection hrun with e _
      rw [← e]; rfl
    · right
      have hr2 := run_append_grow (P := Tryz.prog) w 172 ty 5 i0 (.int .u8 0) Tryz.underlying172 hi hz0 ⟨g, 0, none⟩ n cap (bc xs) (by rw [hown.1, hz1]) (hown.cells (g := g) rfl) ad m c (bc ys) hl (hr.news rfl) (by omega) (by omega) (growslice_fits (by omega) (by rw [hz2]; omega))
      rw [hr2] at hrun
      injection hrun with e _
      rw [← e]; rfl

/-- 'append(s, x...)' of bytes, s the call's own, x whatever slice of bytes. -/
theorem wp_appK {w : World} {ops : Array Oper} {rest : List Oper} {o : Oper} {a : Act} {Q : Exit → Act → World → Prop} (hgd : o.guard = none) (s x : Operand)
    (ho : o.op = .call { callee := .builtin .append, args := #[s, x], argTypes := #[172, 172] })
    (base : Nat) (v : Value) (n : Nat) (xs : List Int) (hs : a.eval s = v) (hown : w.ownsRow base 5 1 v n (bc xs))
    (ao : Option Addr) (m c : Nat) (ys : List Int) (hx : a.eval x = .slice ao m c) (hr : Rd w ao m c ys) (hb : n + m ≤ 1000000000) (hbase : base ≤ w.heap.size)
    (h : ∀ v' w', w'.ownsRow base 5 1 v' (n + m) (bc (xs ++ ys)) → w.grownBy w' v.ownBlock → (v'.ownBlock = v.ownBlock ∨ v'.ownBlock = some w.heap.size) → wpList Tryz.prog ops Q rest (a.put o.dst v') w') : wpList Tryz.prog ops Q (o :: rest) a w := by
  obtain ⟨i0, hi, hz0, hz1, hz2⟩ := info_parts Tryz.info5
  cases ao with
  | none =>
    obtain ⟨rfl, rfl⟩ := rd_noneK hr rfl
    have hys : ys = [] := List.eq_nil_of_length_eq_zero hr.len
    subst hys
    refine wpList_append_own_none hgd s x 172 ho base 5 i0 1 Tryz.underlying172 hi v n (bc xs) hs hown hx ?_
    refine h v w ?_ (World.grownBy.refl _ _) (.inl rfl)
    simpa using hown
  | some ad =>
    refine wpList_plain hgd fun K hK => ?_
    obtain ⟨v', w', hrun, h2, h3, _⟩ := run_append_own (P := Tryz.prog) w base 172 o.type 5 i0 (.int .u8 0) 1 1 Tryz.underlying172 hi hz0 hz1 hz2 rfl (by decide) v n (bc xs) hown ad m c (bc ys) (by rw [bc_len, hr.len]; omega) (hr.news rfl) (bc_one ys) (by unfold maxLen; omega) (by omega) hbase
    have hw := app_where hown hr hb hrun
    rw [← bc_append] at h2
    unfold Oper.wp
    simp only [execOp, ho, resolve, invoke, builtin, Sem.run_bind, Sem.run_pure, Result.andThen_ok, List.map_toArray, List.map_cons, List.map_nil, hs, hx, hrun]
    exact hK _ _ (h v' w' h2 h3 hw)

/-- The same where s is a new empty slice: in the world that was there before it. -/
theorem wp_app0K {w : World} {ops : Array Oper} {rest : List Oper} {o : Oper} {a : Act} {Q : Exit → Act → World → Prop} (hgd : o.guard = none) (s x : Operand)
    (ho : o.op = .call { callee := .builtin .append, args := #[s, x], argTypes := #[172, 172] })
    (hs : a.eval s = .slice (some ⟨w.heap.size, 0, none⟩) 0 0)
    (ao : Option Addr) (m c : Nat) (ys : List Int) (hx : a.eval x = .slice ao m c) (hr : Rd w ao m c ys) (hb : m ≤ 1000000000)
    (h : ∀ v' w', w'.ownsRow w.heap.size 5 1 v' m (bc ys) → Below w.heap.size w w' → (∃ g cap, v' = .slice (some ⟨g, 0, none⟩) m cap) → wpList Tryz.prog ops Q rest (a.put o.dst v') w') : wpList Tryz.prog ops Q (o :: rest) a (w.alloc (.cells #[] 5)) := by
  have hown : (w.alloc (.cells #[] 5)).ownsRow w.heap.size 5 1 (.slice (some ⟨w.heap.size, 0, none⟩) 0 0) 0 (bc []) := World.ownsRow_made w #[] 0 (Nat.le_refl _) (by unfold maxLen; omega) rfl
  refine wp_appK hgd s x ho w.heap.size _ 0 [] hs hown ao m c ys hx (hr.carry (Nat.le_refl _) ((Below.refl _ _).alloc (Nat.le_refl _) _)) (by omega) (by simp) ?_
  intro v' w' h1 h2 h3
  simp only [Nat.zero_add, List.nil_append] at h1
  refine h v' w' h1 (((Below.refl _ _).alloc (Nat.le_refl _) _).grown h2 (by simp) (fun k hk => ?_)) ?_
  · cases hk; exact Nat.le_refl _
  · rcases h1.2 with ⟨rfl, _⟩ | ⟨g, cap, cur, rfl, _⟩
    · rcases h3 with h3 | h3 <;> simp [Value.ownBlock] at h3
    · exact ⟨g, cap, rfl⟩

theorem rd_drewN {w : World} {a : Option Addr} {n c : Nat} {xs : List Int} (h : Rd w a n c xs) (k : Nat) : Rd (w.drewN k) a n c xs := ⟨h.len, h.cap, h.most, h.nil, h.bytes, h.cells⟩

end Go.Proofs.YtppdopcghnfapaaGreatDoor

/- A region that draws its order, walked in one order: what only reads, and would read the same in every later world, may be taken first; what makes memory comes up alone. -/
namespace Go.Proofs.YtppdopcghnfapaaGreatDoor
open Go.RowKit

/-- All blocks of w are in w' as they were. -/
def Ext (w w' : World) : Prop := Below w.heap.size w w'
theorem Ext.refl (w : World) : Ext w w := Below.refl _ _
theorem Ext.trans {a b c : World} (h : Ext a b) (k : Ext b c) : Ext a c := Below.trans h (Below.mono k h.size)
theorem Ext.drew {w w' : World} (h : Ext w w') : Ext w w'.drew := Below.drew h

section
variable {P : Program} {ops : Array Oper} {Q : Exit → Act → World → Prop} {md : Region.Mode}

theorem wpAnyH_weak {S S' : World → Prop} (h : ∀ w, S' w → S w) : ∀ (fuel : Nat) (listed : Array Bool) (a : Act) (w : World), wpAnyH P md ops Q S' fuel listed a w → wpAnyH P md ops Q S fuel listed a w
  | 0, _, _, _, k => k
  | fuel + 1, _, _, _, k => ⟨k.1, fun i hi => wpOp_mono (fun a' w' h' => ⟨h w' h'.1, wpAnyH_weak h fuel _ a' w' h'.2⟩) (k.2 i hi)⟩

/-- The operations in one order; the Bool: it only reads. -/
def seqX (P : Program) (ops : Array Oper) (Q : Exit → Act → World → Prop) : List (Nat × Bool) → Act → World → Prop
  | [], a, w => Q .normal a w
  | (i, rd) :: rest, a, w =>
    match ops[i]? with
    | none => False
    | some o =>
      if Region.wanted o (yielded ops a.tmps) = true then
        if rd = true then ∃ v, (∀ w', Ext w w' → (execOp a.eval o).run P w' = .ok (.value v) w') ∧ seqX P ops Q rest (a.put o.dst v) w
        else Oper.wp P o a w (fun a' w' => Ext w w' ∧ seqX P ops Q rest a' w') Q
      else seqX P ops Q rest (a.put o.dst undef) w

def seqOk (md : Region.Mode) (ops : Array Oper) : Array Bool → List (Nat × Bool) → Bool
  | listed, [] => (Region.ready md ops listed).isEmpty
  | listed, (i, rd) :: rest => (if rd then (Region.ready md ops listed).contains i && Region.free md ops listed i else Region.ready md ops listed == [i]) && seqOk md ops (listed.setIfInBounds i true) rest

theorem upon_mono {o : Oper} {a : Act} {K K' : Act → World → Prop} {r : Result Next} (h : ∀ a w, K a w → K' a w) (k : o.upon P a K Q r) : o.upon P a K' Q r := by
  cases r with
  | ok n w' =>
    cases n <;> simp only [Oper.upon] at k ⊢
    case value u => exact h _ _ k
    case skip => exact h _ _ k
    case defer d => exact h _ _ k
    case enter f args =>
      refine Calls.mono k fun e w'' he => ?_
      cases e with
      | returned u => exact h _ _ he
      | panicked c => exact he
      | outgrown => exact he
    case row row args => exact Rows.mono k fun u w'' he => h _ _ he
  | halt x w' =>
    cases x <;> simp only [Oper.upon] at k ⊢
    case panic u => exact k

theorem seqX_any (hs : Region.noSelect ops = true) (hQ : ∀ c (a : Act) d v w, Q (.panic c) (a.put d v) w → Q (.panic c) a w) :
    ∀ (l : List (Nat × Bool)) (listed : Array Bool) (a : Act) (w : World), seqOk md ops listed l = true → seqX P ops Q l a w → wpAnyH P md ops Q (Ext w) l.length listed a w := by
  intro l
  induction l with
  | nil => intro listed a w hok h; exact wpAnyH_done (by simpa [seqOk] using hok) h _
  | cons p rest ih =>
    obtain ⟨i, rd⟩ := p
    intro listed a w hok h
    unfold seqX at h
    cases ho : ops[i]? with
    | none => rw [ho] at h; exact h.elim
    | some o =>
      rw [ho] at h
      simp only at h
      rw [seqOk, Bool.and_eq_true] at hok
      by_cases hw : Region.wanted o (yielded ops a.tmps) = true
      · rw [if_pos hw] at h
        cases rd with
        | true =>
          rw [if_pos rfl] at h
          obtain ⟨v, hv, hrest⟩ := h
          have h1 := hok.1
          rw [if_pos rfl, Bool.and_eq_true] at h1
          exact wpAnyH_take ho hs h1.2 h1.1 (fun c a w => hQ c a o.dst v w) (Or.inl ⟨hw, hv⟩) (Ext.refl w) (ih _ _ _ hok.2 hrest)
        | false =>
          rw [if_neg (by decide)] at h
          have h1 := hok.1
          rw [if_neg (by decide)] at h1
          refine wpAnyH_all (rs := [i]) (by simpa using h1) (by simp) fun j hj => ?_
          have hj' : j = i := by simpa using hj
          subst hj'
          unfold wpOp
          rw [ho]
          simp only
          rw [if_pos hw]
          exact .inl (upon_mono (fun a' w' k => ⟨k.1, wpAnyH_weak (fun w'' e => Ext.trans k.1 e) _ _ _ _ (ih _ _ _ hok.2 k.2)⟩) h)
      · have hw' : Region.wanted o (yielded ops a.tmps) = false := by simpa using hw
        rw [if_neg hw] at h
        cases rd with
        | true =>
          have h1 := hok.1
          rw [if_pos rfl, Bool.and_eq_true] at h1
          exact wpAnyH_take ho hs h1.2 h1.1 (fun c a w => hQ c a o.dst undef w) (Or.inr ⟨hw', rfl⟩) (Ext.refl w) (ih _ _ _ hok.2 h)
        | false =>
          have h1 := hok.1
          rw [if_neg (by decide)] at h1
          refine wpAnyH_all (rs := [i]) (by simpa using h1) (by simp) fun j hj => ?_
          have hj' : j = i := by simpa using hj
          subst hj'
          unfold wpOp
          rw [ho]
          simp only
          rw [if_neg hw]
          exact ⟨Ext.refl w, ih _ _ _ hok.2 h⟩

/-- THE LAW: a region that draws, in one order. -/
theorem wp_region_seq {id : Nat} {a : Act} {w : World} (l : List (Nat × Bool)) (hm : P.follows .mixedOrders = true) (hs : Region.noSelect ops = true) (hl : l.length = ops.size)
    (hok : seqOk .any ops (Array.replicate ops.size false) l = true) (hQ : ∀ c (a : Act) d v w, Q (.panic c) (a.put d v) w → Q (.panic c) a w)
    (h : seqX P ops Q l a w.drew) : (Code.region id ops true).wp P Q a w :=
  wp_region_held hm (S := Ext w.drew) (by have k := seqX_any hs hQ l _ a w.drew hok h; rw [hl] at k; exact k)

theorem put_some (a : Act) (d : Tmp) (v : Value) : a.put (some d) v = { tmps := a.tmps.setIfInBounds d v, defers := a.defers } := rfl

theorem seqX_read {i : Nat} {rest : List (Nat × Bool)} {tm : Array Value} {df : List Deferred} {w : World} {o : Oper} {d : Tmp} (v : Value) (ho : ops[i]? = some o) (hd : o.dst = some d) (hw : Region.wanted o (yielded ops tm) = true)
    (hv : ∀ w', Ext w w' → (execOp (Act.eval { tmps := tm, defers := df }) o).run P w' = .ok (.value v) w') (h : seqX P ops Q rest { tmps := tm.setIfInBounds d v, defers := df } w) : seqX P ops Q ((i, true) :: rest) { tmps := tm, defers := df } w := by
  unfold seqX; rw [ho]; simp only; rw [if_pos hw, if_pos trivial]; exact ⟨v, hv, by rw [hd, put_some]; exact h⟩

theorem seqX_skip {i : Nat} {rd : Bool} {rest : List (Nat × Bool)} {tm : Array Value} {df : List Deferred} {w : World} {o : Oper} {d : Tmp} (ho : ops[i]? = some o) (hd : o.dst = some d) (hw : Region.wanted o (yielded ops tm) = false)
    (h : seqX P ops Q rest { tmps := tm.setIfInBounds d undef, defers := df } w) : seqX P ops Q ((i, rd) :: rest) { tmps := tm, defers := df } w := by
  unfold seqX; rw [ho]; simp only; rw [if_neg (by simp [hw]), hd, put_some]; exact h

theorem seqX_call {i : Nat} {rest : List (Nat × Bool)} {tm : Array Value} {df : List Deferred} {w : World} {o : Oper} {d : Tmp} (f : FuncId) (args : Array Value) (ho : ops[i]? = some o) (hd : o.dst = some d) (hw : Region.wanted o (yielded ops tm) = true)
    (hrun : (execOp (Act.eval { tmps := tm, defers := df }) o).run P w = .ok (.enter f args) w) (h : Calls P f args w fun e w' => ∃ v, e = .returned v ∧ Ext w w' ∧ seqX P ops Q rest { tmps := tm.setIfInBounds d v, defers := df } w') : seqX P ops Q ((i, false) :: rest) { tmps := tm, defers := df } w := by
  unfold seqX; rw [ho]; simp only; rw [if_pos hw, if_neg (by simp)]
  unfold Oper.wp
  rw [hrun, Oper.upon_enter]
  refine h.mono ?_
  rintro e w' ⟨v, rfl, h1, h2⟩
  show Ext w w' ∧ seqX P ops Q rest (Act.put { tmps := tm, defers := df } o.dst v) w'
  rw [hd, put_some]
  exact ⟨h1, h2⟩

theorem seqX_done {a : Act} {w : World} (h : Q .normal a w) : seqX P ops Q [] a w := h

end
end Go.Proofs.YtppdopcghnfapaaGreatDoor

/- A region that draws its order, walked step by step, with late operations: what is asked of the world holds behind every operation but the late ones (the stores of an assignment, which wait for all that was read). -/
namespace Go.Proofs.YtppdopcghnfapaaGreatDoor
open Go.RowKit

section
variable {P : Program} {ops : Array Oper} {Q : Exit → Act → World → Prop} {S : World → Prop} {T : List Nat} {md : Region.Mode}

/-- Whatever order is picked from here on, and S holds behind every operation that is carried out, but for the late ones. -/
def wpAnyT (P : Program) (md : Region.Mode) (ops : Array Oper) (Q : Exit → Act → World → Prop) (S : World → Prop) (T : List Nat) : Nat → Array Bool → Act → World → Prop
  | 0, listed, a, w => Region.ready md ops listed = [] ∧ Q .normal a w
  | fuel + 1, listed, a, w =>
    (Region.ready md ops listed = [] → Q .normal a w) ∧
    ∀ i ∈ Region.ready md ops listed, wpOp P ops Q i (fun a' w' => (T.contains i = false → S w') ∧ wpAnyT P md ops Q S T fuel (listed.setIfInBounds i true) a' w') a w

theorem wpAny_of_late : ∀ (fuel : Nat) (listed : Array Bool) (a : Act) (w : World), wpAnyT P md ops Q S T fuel listed a w → wpAny P md ops Q fuel listed a w
  | 0, _, _, _, h => h
  | fuel + 1, _, _, _, h => ⟨h.1, fun i hi => wpOp_mono (fun a' w' h' => wpAny_of_late fuel _ a' w' h'.2) (h.2 i hi)⟩

/-- Every late operation that has not come up waits for number i. -/
def lateOk (md : Region.Mode) (ops : Array Oper) (T : List Nat) (listed : Array Bool) (i : Nat) : Bool :=
  T.all fun t => listed.getD t true || match ops[t]? with
    | some o => o.after.any (fun e => Region.binds md e && e.on == i)
    | none => true

theorem lateOk_spec {listed : Array Bool} {i : Nat} (h : lateOk md ops T listed i = true) (t : Nat) (ht : t ∈ T) (hu : listed.getD t true = false) (o : Oper) (ho : ops[t]? = some o) : ∃ e ∈ o.after, Region.binds md e = true ∧ e.on = i := by
  have h1 := List.all_eq_true.1 h t ht
  simp only [hu, ho, Bool.false_or] at h1
  obtain ⟨e, he, hb⟩ := Array.any_eq_true'.1 h1
  simp only [Bool.and_eq_true, beq_iff_eq] at hb
  exact ⟨e, he, hb.1, hb.2⟩

theorem lateOk_set {listed : Array Bool} {i j : Nat} (h : lateOk md ops T listed i = true) : lateOk md ops T (listed.setIfInBounds j true) i = true := by
  refine List.all_eq_true.2 fun t ht => ?_
  have h1 := List.all_eq_true.1 h t ht
  rw [Bool.or_eq_true] at h1 ⊢
  rcases h1 with h1 | h1
  · left
    by_cases hjt : j = t
    · subst hjt
      rcases Nat.lt_or_ge j listed.size with g | g
      · simp [Array.getD, g]
      · simp [Array.getD, Nat.not_lt.2 g]
    · rw [getD_set_ne true hjt]; exact h1
  · exact .inr h1

theorem wpAnyT_first {i : Nat} {oi : Oper} {v : Value} (hi : ops[i]? = some oi) (hsel : ∀ (j : Nat) (o : Oper) cs b, ops[j]? = some o → o.op ≠ .select cs b)
    (hQ : ∀ c a w, Q (.panic c) (a.put oi.dst v) w → Q (.panic c) a w) (hiT : T.contains i = false) :
    ∀ (fuel : Nat) (listed : Array Bool) (a : Act) (w : World),
      (∀ j oj, ops[j]? = some oj → j ≠ i → listed.getD j true = false → (∀ e ∈ oj.after, Region.binds md e = true → e.on ≠ i) → oi.apart ops oj = true) →
      lateOk md ops T listed i = true →
      i ∈ Region.ready md ops listed → YieldsIf P ops S oi v a → S w →
      wpAnyT P md ops Q S T fuel (listed.setIfInBounds i true) (a.put oi.dst v) w → wpAnyT P md ops Q S T (fuel + 1) listed a w := by
  intro fuel
  induction fuel with
  | zero =>
    intro listed a w _ _ hr hy hS H
    refine ⟨fun h => (by rw [h] at hr; cases hr), fun j hj => ?_⟩
    by_cases hji : j = i
    · subst hji; exact hy.wpOp hi hS ⟨fun _ => hS, H⟩
    · have := ready_mono hj hji
      rw [H.1] at this
      cases this
  | succ fuel ih =>
    intro listed a w hfree hlate hr hy hS H
    refine ⟨fun h => (by rw [h] at hr; cases hr), fun j hj => ?_⟩
    by_cases hji : j = i
    · subst hji; exact hy.wpOp hi hS ⟨fun _ => hS, H⟩
    · have h1 := H.2 j (ready_mono hj hji)
      obtain ⟨hjun, oj, hoj, hall⟩ := mem_ready.1 hj
      have hnot : ∀ e ∈ oj.after, Region.binds md e = true → e.on ≠ i := fun e he hb heq => by
        have h1 := hall e he hb
        have h0 := (mem_ready.1 hr).1
        rw [heq] at h1
        rcases Nat.lt_or_ge i listed.size with h' | h'
        · simp [h'] at h0 h1; rw [h0] at h1; cases h1
        · simp [Array.getElem?_eq_none h'] at h1
      have hjT : T.contains j = false := by
        cases hc : T.contains j with
        | false => rfl
        | true =>
          obtain ⟨e, he, hb, hon⟩ := lateOk_spec hlate j (List.contains_iff_mem.1 hc) hjun oj hoj
          exact absurd hon (hnot e he hb)
      have h2 := wpOp_putIf hoj (hfree j oj hoj hji hjun hnot) (fun cs b => hsel i oi cs b hi) (fun cs b => hsel j oj cs b hoj) hQ hy h1
      have hfree' : ∀ k ok, ops[k]? = some ok → k ≠ i → (listed.setIfInBounds j true).getD k true = false →
          (∀ e ∈ ok.after, Region.binds md e = true → e.on ≠ i) → oi.apart ops ok = true := fun k ok hk hki hun hno => by
        refine hfree k ok hk hki ?_ hno
        by_cases hjk : j = k
        · subst hjk; exact hjun
        · rw [getD_set_ne true hjk] at hun; exact hun
      refine wpOp_mono (fun a' w' h3 => ⟨h3.2.1, ih (listed.setIfInBounds j true) a' w' hfree' (lateOk_set hlate) (ready_mono hr (Ne.symm hji)) h3.1 (h3.2.1 hjT) ?_⟩) h2
      rw [Array.setIfInBounds_comm _ _ hji]
      exact h3.2.2

/-- What is left of a region. -/
structure LX (P : Program) (ops : Array Oper) (Q : Exit → Act → World → Prop) (S : World → Prop) (T : List Nat) (fuel : Nat) (listed : Array Bool) (a : Act) (w : World) : Prop where
  out : wpAnyT P .any ops Q S T fuel listed a w

/-- What one operation owes. -/
def stepT (P : Program) (ops : Array Oper) (Q : Exit → Act → World → Prop) (S : World → Prop) (T : List Nat) (i : Nat) (K : Act → World → Prop) (a : Act) (w : World) : Prop :=
  wpOp P ops Q i (fun a' w' => (T.contains i = false → S w') ∧ K a' w') a w

theorem wp_region_lx {id : Nat} {a : Act} {w : World} (S : World → Prop) (T : List Nat) (n : Nat) (hm : P.follows .mixedOrders = true) (hn : ops.size = n) (h : LX P ops Q S T n (Array.replicate n false) a w.drew) : (Code.region id ops true).wp P Q a w := by
  subst hn
  exact wp_region_any hm (wpAny_of_late _ _ _ _ h.out)

theorem lx_nil {fuel : Nat} {listed : Array Bool} {a : Act} {w : World} (hr : (Region.ready .any ops listed).isEmpty = true) (h : Q .normal a w) : LX P ops Q S T fuel listed a w := by
  have hr' : Region.ready .any ops listed = [] := by simpa using hr
  cases fuel with
  | zero => exact ⟨hr', h⟩
  | succ f => exact ⟨fun _ => h, by rw [hr']; simp⟩

theorem lx_rd {fuel : Nat} {listed : Array Bool} {tm : Array Value} {df : List Deferred} {w : World} {o : Oper} {d : Tmp} (i : Nat) (v : Value) (hs : Region.noSelect ops = true) (hQ : ∀ c (a : Act) d v w, Q (.panic c) (a.put d v) w → Q (.panic c) a w) (hr : ((Region.ready .any ops listed).contains i && Region.free .any ops listed i && lateOk .any ops T listed i && !T.contains i) = true)
    (hS : S w) (ho : ops[i]? = some o) (hd : o.dst = some d) (hw : Region.wanted o (yielded ops tm) = true)
    (hv : ∀ w', S w' → (execOp (Act.eval { tmps := tm, defers := df }) o).run P w' = .ok (.value v) w') (h : LX P ops Q S T fuel (listed.setIfInBounds i true) { tmps := tm.setIfInBounds d v, defers := df } w) : LX P ops Q S T (fuel + 1) listed { tmps := tm, defers := df } w := by
  rw [Bool.and_eq_true, Bool.and_eq_true, Bool.and_eq_true] at hr
  refine ⟨wpAnyT_first ho (Region.noSelect_spec hs) (fun c a w => hQ c a o.dst v w) (by simpa using hr.2) fuel listed _ _ (Region.free_spec ho hr.1.1.2) hr.1.2 (by simpa using hr.1.1.1) (Or.inl ⟨hw, hv⟩) hS ?_⟩
  have := h.out
  rw [hd, put_some]; exact this

/-- An operation whose guard is false. -/
theorem lx_skip {fuel : Nat} {listed : Array Bool} {tm : Array Value} {df : List Deferred} {w : World} {o : Oper} {d : Tmp} (i : Nat) (hs : Region.noSelect ops = true) (hQ : ∀ c (a : Act) d v w, Q (.panic c) (a.put d v) w → Q (.panic c) a w) (hr : ((Region.ready .any ops listed).contains i && Region.free .any ops listed i && lateOk .any ops T listed i && !T.contains i) = true)
    (hS : S w) (ho : ops[i]? = some o) (hd : o.dst = some d) (hw : Region.wanted o (yielded ops tm) = false)
    (h : LX P ops Q S T fuel (listed.setIfInBounds i true) { tmps := tm.setIfInBounds d undef, defers := df } w) : LX P ops Q S T (fuel + 1) listed { tmps := tm, defers := df } w := by
  rw [Bool.and_eq_true, Bool.and_eq_true, Bool.and_eq_true] at hr
  refine ⟨wpAnyT_first ho (Region.noSelect_spec hs) (fun c a w => hQ c a o.dst undef w) (by simpa using hr.2) fuel listed _ _ (Region.free_spec ho hr.1.1.2) hr.1.2 (by simpa using hr.1.1.1) (Or.inr ⟨hw, rfl⟩) hS ?_⟩
  have := h.out
  rw [hd, put_some]; exact this

/-- lx_rd and lx_skip, the closed facts left to the kernel. -/
theorem lx_r {fuel : Nat} {listed : Array Bool} {tm : Array Value} {df : List Deferred} {w : World} {o : Oper} {d : Tmp} (i : Nat) (v : Value) (hS : S w)
    (h : LX P ops Q S T fuel (listed.setIfInBounds i true) { tmps := tm.setIfInBounds d v, defers := df } w) (hs : Region.noSelect ops = true := by kernel_rfl) (hQ : ∀ c (a : Act) d v w, Q (.panic c) (a.put d v) w → Q (.panic c) a w := by intro _ _ d _ _ h; cases d <;> exact h) (hr : ((Region.ready .any ops listed).contains i && Region.free .any ops listed i && lateOk .any ops T listed i && !T.contains i) = true := by kernel_rfl)
    (ho : ops[i]? = some o := by rfl) (hd : o.dst = some d := by rfl) (hw : Region.wanted o (yielded ops tm) = true := by rfl)
    (hv : ∀ w', S w' → (execOp (Act.eval { tmps := tm, defers := df }) o).run P w' = .ok (.value v) w' := by intro w' hS; first | (go_simp; rfl) | go_simp) : LX P ops Q S T (fuel + 1) listed { tmps := tm, defers := df } w := lx_rd i v hs hQ hr hS ho hd hw hv h
theorem lx_s {fuel : Nat} {listed : Array Bool} {tm : Array Value} {df : List Deferred} {w : World} {o : Oper} {d : Tmp} (i : Nat) (hS : S w)
    (h : LX P ops Q S T fuel (listed.setIfInBounds i true) { tmps := tm.setIfInBounds d undef, defers := df } w) (hs : Region.noSelect ops = true := by kernel_rfl) (hQ : ∀ c (a : Act) d v w, Q (.panic c) (a.put d v) w → Q (.panic c) a w := by intro _ _ d _ _ h; cases d <;> exact h) (hr : ((Region.ready .any ops listed).contains i && Region.free .any ops listed i && lateOk .any ops T listed i && !T.contains i) = true := by kernel_rfl)
    (ho : ops[i]? = some o := by rfl) (hd : o.dst = some d := by rfl) (hw : Region.wanted o (yielded ops tm) = false := by rfl) : LX P ops Q S T (fuel + 1) listed { tmps := tm, defers := df } w := lx_skip i hs hQ hr hS ho hd hw h
theorem lxa {α : Type _} (l : List α) (i : Nat) (a : α) : l.toArray.setIfInBounds i a = (l.set i a).toArray := List.setIfInBounds_toArray ..
theorem lxb {α : Type _} (x : α) (l : List α) (a : α) : (x :: l).set 0 a = a :: l := rfl
theorem lxc {α : Type _} (x : α) (l : List α) (n : Nat) (a : α) : (x :: l).set (n + 1) a = x :: l.set n a := rfl

theorem lx_one {fuel : Nat} {listed : Array Bool} {a : Act} {w : World} (i : Nat) (hr : (Region.ready .any ops listed == [i]) = true) (h : stepT P ops Q S T i (LX P ops Q S T fuel (listed.setIfInBounds i true)) a w) : LX P ops Q S T (fuel + 1) listed a w := by
  have hr' : Region.ready .any ops listed = [i] := by simpa using hr
  refine ⟨⟨fun h0 => absurd (hr' ▸ h0) (by simp), fun j hj => ?_⟩⟩
  have hj' : j = i := by rw [hr'] at hj; simpa using hj
  subst hj'
  exact wpOp_mono (fun a' w' k => ⟨k.1, k.2.out⟩) h

theorem lx_two {fuel : Nat} {listed : Array Bool} {a : Act} {w : World} (i j : Nat) (hr : (Region.ready .any ops listed == [i, j]) = true) (h1 : stepT P ops Q S T i (LX P ops Q S T fuel (listed.setIfInBounds i true)) a w) (h2 : stepT P ops Q S T j (LX P ops Q S T fuel (listed.setIfInBounds j true)) a w) : LX P ops Q S T (fuel + 1) listed a w := by
  have hr' : Region.ready .any ops listed = [i, j] := by simpa using hr
  refine ⟨⟨fun h0 => absurd (hr' ▸ h0) (by simp), fun k hk => ?_⟩⟩
  rw [hr'] at hk
  by_cases hki : k = i
  · subst hki
    exact wpOp_mono (fun a' w' k => ⟨k.1, k.2.out⟩) h1
  · have hkj : k = j := by simpa [hki] using hk
    subst hkj
    exact wpOp_mono (fun a' w' k => ⟨k.1, k.2.out⟩) h2

theorem stepT_call {i : Nat} {K : Act → World → Prop} {tm : Array Value} {df : List Deferred} {w : World} {o : Oper} {d : Tmp} (f : FuncId) (args : Array Value) (ho : ops[i]? = some o) (hd : o.dst = some d) (hw : Region.wanted o (yielded ops tm) = true)
    (hrun : (execOp (Act.eval { tmps := tm, defers := df }) o).run P w = .ok (.enter f args) w) (h : Calls P f args w fun e w' => ∃ v, e = .returned v ∧ (T.contains i = false → S w') ∧ K { tmps := tm.setIfInBounds d v, defers := df } w') : stepT P ops Q S T i K { tmps := tm, defers := df } w := by
  unfold stepT wpOp
  rw [ho]
  simp only
  rw [if_pos hw]
  refine .inl ?_
  unfold Oper.wp
  rw [hrun, Oper.upon_enter]
  refine h.mono ?_
  rintro e w' ⟨v, rfl, h1, h2⟩
  show (T.contains i = false → S w') ∧ K (Act.put { tmps := tm, defers := df } o.dst v) w'
  rw [hd, put_some]
  exact ⟨h1, h2⟩

/-- A call that may panic. -/
theorem stepT_callP {i : Nat} {K : Act → World → Prop} {tm : Array Value} {df : List Deferred} {w : World} {o : Oper} {d : Tmp} (f : FuncId) (args : Array Value) (ho : ops[i]? = some o) (hd : o.dst = some d) (hw : Region.wanted o (yielded ops tm) = true)
    (hrun : (execOp (Act.eval { tmps := tm, defers := df }) o).run P w = .ok (.enter f args) w) (h : Calls P f args w fun e w' => (∃ v, e = .returned v ∧ (T.contains i = false → S w') ∧ K { tmps := tm.setIfInBounds d v, defers := df } w') ∨ ∃ c, e = .panicked c ∧ Q (.panic c) { tmps := tm, defers := df } w') : stepT P ops Q S T i K { tmps := tm, defers := df } w := by
  unfold stepT wpOp
  rw [ho]
  simp only
  rw [if_pos hw]
  refine .inl ?_
  unfold Oper.wp
  rw [hrun, Oper.upon_enter]
  refine h.mono ?_
  rintro e w' (⟨v, rfl, h1, h2⟩ | ⟨c, rfl, h1⟩)
  · show (T.contains i = false → S w') ∧ K (Act.put { tmps := tm, defers := df } o.dst v) w'
    rw [hd, put_some]
    exact ⟨h1, h2⟩
  · exact h1

theorem stepT_val {i : Nat} {K : Act → World → Prop} {tm : Array Value} {df : List Deferred} {w w' : World} {o : Oper} {d : Tmp} (v : Value) (ho : ops[i]? = some o) (hd : o.dst = some d) (hw : Region.wanted o (yielded ops tm) = true)
    (hrun : (execOp (Act.eval { tmps := tm, defers := df }) o).run P w = .ok (.value v) w') (hS : T.contains i = false → S w') (h : K { tmps := tm.setIfInBounds d v, defers := df } w') : stepT P ops Q S T i K { tmps := tm, defers := df } w := by
  unfold stepT wpOp
  rw [ho]
  simp only
  rw [if_pos hw]
  refine .inl ?_
  unfold Oper.wp
  rw [hrun]
  show (T.contains i = false → S w') ∧ K (Act.put { tmps := tm, defers := df } o.dst v) w'
  rw [hd, put_some]
  exact ⟨hS, h⟩

/-- A call whose answer nobody takes. -/
theorem stepT_valN {i : Nat} {K : Act → World → Prop} {tm : Array Value} {df : List Deferred} {w w' : World} {o : Oper} (v : Value) (ho : ops[i]? = some o) (hd : o.dst = none) (hw : Region.wanted o (yielded ops tm) = true)
    (hrun : (execOp (Act.eval { tmps := tm, defers := df }) o).run P w = .ok (.value v) w') (hS : T.contains i = false → S w') (h : K { tmps := tm, defers := df } w') : stepT P ops Q S T i K { tmps := tm, defers := df } w := by
  unfold stepT wpOp
  rw [ho]
  simp only
  rw [if_pos hw]
  refine .inl ?_
  unfold Oper.wp
  rw [hrun]
  show (T.contains i = false → S w') ∧ K (Act.put { tmps := tm, defers := df } o.dst v) w'
  rw [hd]
  exact ⟨hS, h⟩
/-- A store. -/
theorem stepT_store {i : Nat} {K : Act → World → Prop} {tm : Array Value} {df : List Deferred} {w w' : World} {o : Oper} (ho : ops[i]? = some o) (hd : o.dst = none) (hw : Region.wanted o (yielded ops tm) = true)
    (hrun : (execOp (Act.eval { tmps := tm, defers := df }) o).run P w = .ok .skip w') (hS : T.contains i = false → S w') (h : K { tmps := tm, defers := df } w') : stepT P ops Q S T i K { tmps := tm, defers := df } w := by
  unfold stepT wpOp
  rw [ho]
  simp only
  rw [if_pos hw]
  refine .inl ?_
  unfold Oper.wp
  rw [hrun]
  show (T.contains i = false → S w') ∧ K (Act.put { tmps := tm, defers := df } o.dst undef) w'
  rw [hd]
  exact ⟨hS, h⟩

end
end Go.Proofs.YtppdopcghnfapaaGreatDoor

/- subs' small functions: demand, checkRequest, checkHalf, the acts and what is heard. -/
set_option maxRecDepth 100000
namespace Go.Proofs.YtppdopcghnfapaaGreatDoor
open Go.RowKit

def gaveS (n : Nat) : List PanicEntry := [{ v := .iface 179 (.agg #[.int .i64 n]), recovered := false }]

theorem Tryz.cells49 : Tryz.prog.cellsOf 49 = 4 := by kernel_rfl

theorem demand_ok (w : World) : Calls Tryz.prog 125 #[.bool true] w fun e w' => e = .returned (.tuple #[]) ∧ w' = w := by
  go_enter Tryz.func125, Tryz.ntmps125
  go_wp2
  go_end0
  exact ⟨rfl, rfl⟩
theorem demand_no (w : World) : Calls Tryz.prog 125 #[.bool false] w fun e w' => e = .panicked (gaveS 1) ∧ w' = w := by
  go_enter Tryz.func125, Tryz.ntmps125
  go_wp2
  exact ⟨rfl, rfl, rfl⟩

/-- A half. -/
structure Hf where
  o : Int
  n : Int
  i : Int
  m : Int
def hfc (h : Hf) : Array Value := #[.int .i64 h.o, .int .u64 h.n, .int .i64 h.i, .int .u64 h.m]
def hfv (h : Hf) : Value := .agg (hfc h)

def in3 (s : Int) : Bool := decide (0 ≤ s) && decide (s ≤ 2)
def okR (s n : Int) : Bool := in3 s && ((s == 0) == (n == 0))
def okH (h : Hf) : Bool := okR h.o h.n && okR h.i h.m
theorem checkR_ok (s n : Int) (w : World) (h : okR s n = true) : Calls Tryz.prog 148 #[.int .i64 s, .int .u64 n] w fun e w' => e = .returned (.tuple #[]) ∧ w' = w := by
  obtain ⟨h0, h3⟩ := Bool.and_eq_true_iff.1 h
  obtain ⟨h1, h2⟩ := Bool.and_eq_true_iff.1 h0
  have h1 := of_decide_eq_true h1
  have h2 := of_decide_eq_true h2
  clear h h0
  go_enter Tryz.func148, Tryz.ntmps148
  go_wp2_with (first
    | (go_at_call 125; refine (demand_ok _).mono ?_; rintro e w1 ⟨rfl, rfl⟩))
  go_end0
  exact ⟨rfl, rfl⟩
theorem checkR_no (s n : Int) (w : World) (h : okR s n = false) : Calls Tryz.prog 148 #[.int .i64 s, .int .u64 n] w fun e w' => e = .panicked (gaveS 1) ∧ w' = w := by
  unfold okR in3 at h
  by_cases h1 : 0 ≤ s
  · by_cases h2 : s ≤ 2
    · rw [decide_eq_true h1, decide_eq_true h2] at h
      have h3 : ((s == 0) == (n == 0)) = false := h
      clear h
      go_enter Tryz.func148, Tryz.ntmps148
      go_wp2_with (first
        | (go_at_call 125; (first | refine (demand_no _).mono ?_ | refine (demand_ok _).mono ?_); rintro e w1 ⟨rfl, rfl⟩))
      exact ⟨rfl, rfl, rfl⟩
    · clear h
      go_enter Tryz.func148, Tryz.ntmps148
      go_wp2_with (first
        | (go_at_call 125; refine (demand_no _).mono ?_; rintro e w1 ⟨rfl, rfl⟩))
      exact ⟨rfl, rfl, rfl⟩
  · clear h
    go_enter Tryz.func148, Tryz.ntmps148
    go_wp2_with (first
      | (go_at_call 125; refine (demand_no _).mono ?_; rintro e w1 ⟨rfl, rfl⟩))
    exact ⟨rfl, rfl, rfl⟩

/-- It goes through, or gives up with ErrArg. -/
def Ga : Bool → Ending → Prop
  | true, e => e = .returned (.tuple #[])
  | false, e => e = .panicked (gaveS 1)
theorem checkR_at (s n : Int) (w : World) (b : Bool) (h : okR s n = b) : Calls Tryz.prog 148 #[.int .i64 s, .int .u64 n] w fun e w' => Ga b e ∧ w' = w := by
  cases b with
  | true => exact checkR_ok s n w h
  | false => exact checkR_no s n w h

theorem below1 (w : World) (a : Obj) : Below w.heap.size w (w.alloc a) := (Below.refl _ _).alloc (Nat.le_refl _) _
theorem below2 (w : World) (a b : Obj) : Below w.heap.size w ((w.alloc a).alloc b) := ((Below.refl _ _).alloc (Nat.le_refl _) _).alloc (by simp) _

theorem checkH_ok (h : Hf) (w : World) (hh : okH h = true) : Calls Tryz.prog 122 #[hfv h] w fun e w' => e = .returned (.tuple #[]) ∧ Below w.heap.size w w' := by
  obtain ⟨h1, h2⟩ := Bool.and_eq_true_iff.1 hh
  unfold hfv hfc
  have hb := below1 w (.cells #[.int .i64 h.o, .int .u64 h.n, .int .i64 h.i, .int .u64 h.m] 49)
  go_enter Tryz.func122, Tryz.ntmps122
  go_wp2_with (first
    | (go_at_call 148; refine (checkR_ok _ _ _ (by first | exact h1 | exact h2)).mono ?_; rintro e w1 ⟨rfl, rfl⟩))
  go_end0
  exact ⟨rfl, hb⟩
theorem checkH_no (h : Hf) (w : World) (hh : okH h = false) : Calls Tryz.prog 122 #[hfv h] w fun e w' => e = .panicked (gaveS 1) ∧ Below w.heap.size w w' := by
  unfold okH at hh
  unfold hfv hfc
  have hb := below1 w (.cells #[.int .i64 h.o, .int .u64 h.n, .int .i64 h.i, .int .u64 h.m] 49)
  cases h1 : okR h.o h.n with
  | true =>
    rw [h1] at hh
    have h2 : okR h.i h.m = false := hh
    clear hh
    go_enter Tryz.func122, Tryz.ntmps122
    go_wp2_with (first
      | (go_at_call 148; refine (checkR_at _ _ _ _ (by first | exact h1 | exact h2)).mono ?_; rintro e w1 ⟨hg, rfl⟩; cases hg))
    exact ⟨rfl, rfl, hb⟩
  | false =>
    clear hh
    go_enter Tryz.func122, Tryz.ntmps122
    go_wp2_with (first
      | (go_at_call 148; refine (checkR_no _ _ _ h1).mono ?_; rintro e w1 ⟨rfl, rfl⟩))
    exact ⟨rfl, rfl, hb⟩

theorem woOut_any (h : Hf) (w : World) : Calls Tryz.prog 176 #[hfv h] w fun e w' => e = .returned (hfv { h with o := 0, n := 0 }) ∧ Below w.heap.size w w' := by
  unfold hfv hfc
  go_enter Tryz.func176, Tryz.ntmps176
  go_wp2
  simp [bodyPost, results, Tryz.results176, go_sem]
  exact below2 _ _ _
theorem woIn_any (h : Hf) (w : World) : Calls Tryz.prog 177 #[hfv h] w fun e w' => e = .returned (hfv { h with i := 0, m := 0 }) ∧ Below w.heap.size w w' := by
  unfold hfv hfc
  go_enter Tryz.func177, Tryz.ntmps177
  go_wp2
  simp [bodyPost, results, Tryz.results177, go_sem]
  exact below2 _ _ _
end Go.Proofs.YtppdopcghnfapaaGreatDoor

/- subs: the acts and what is heard, one by one. -/
set_option maxRecDepth 100000
namespace Go.Proofs.YtppdopcghnfapaaGreatDoor
open Go.RowKit Go.Joins

/-- A half in a variable of its own. -/
def HfAt (w : World) (b : Nat) (h : Hf) : Prop := w.heap[b]? = some (.cells (hfc h) 49 (0, 0))
section
variable {w w' : World} {b : Nat} {h : Hf}
theorem HfAt.lt (A : HfAt w b h) : b < w.heap.size := (Array.getElem?_eq_some_iff.1 A).1
theorem HfAt.below (A : HfAt w b h) {B : Nat} (hb : Below B w w') (hB : b < B) : HfAt w' b h := (hb.block b hB).trans A
theorem HfAt.drew (A : HfAt w b h) : HfAt w.drew b h := A
theorem HfAt.c0 (A : HfAt w b h) : w.cell? ⟨b, 0, none⟩ = some (.int .i64 h.o) := by rw [cell_of_block A]; rfl
theorem HfAt.c1 (A : HfAt w b h) : w.cell? ⟨b, 1, none⟩ = some (.int .u64 h.n) := by rw [cell_of_block A]; rfl
theorem HfAt.c2 (A : HfAt w b h) : w.cell? ⟨b, 2, none⟩ = some (.int .i64 h.i) := by rw [cell_of_block A]; rfl
theorem HfAt.c3 (A : HfAt w b h) : w.cell? ⟨b, 3, none⟩ = some (.int .u64 h.m) := by rw [cell_of_block A]; rfl
theorem infoHalf : (Tryz.prog.info? 49).map (·.size) = some 4 := by kernel_rfl
theorem hfc_one (h : Hf) : (hfc h).all (·.oneCell') = true := by simp [hfc, Value.oneCell']
theorem HfAt.load (A : HfAt w b h) : (loadVar 49 ⟨b, 0, none⟩).run Tryz.prog w = .ok (hfv h) w := run_loadVar_row w b 49 49 _ (0, 0) _ A Tryz.underlying49 rfl (by rw [infoHalf]; rfl)
theorem HfAt.set (A : HfAt w b h) (h' : Hf) : HfAt (w.setRow b (hfc h')) b h' := setRow_heap w b _ _ 49 (0, 0) A
theorem HfAt.row (A : HfAt w b h) {c : Nat} (v : Array Value) (hc : b ≠ c) : HfAt (w.setRow c v) b h := (setRow_other w c b _ hc).trans A
theorem HfAt.keepB (_ : HfAt w b h) (h' : Hf) : Keep (fun j => j = b) w (w.setRow b (hfc h')) := ⟨rfl, rfl, rfl, by simp, fun j _ hj => setRow_other w b j _ hj⟩
theorem HfAt.setB (A : HfAt w b h) {w0 : World} {B : Nat} (hb : Below B w0 w) (hB : B ≤ b) (h' : Hf) : Below B w0 (w.setRow b (hfc h')) := hb.trans ((A.keepB h').below (Nat.le_trans hB (Nat.le_of_lt A.lt)) (fun q hq => by omega))
end
theorem exec_store_half {o : Oper} {ρ : Operand → Value} {w : World} (x y : Operand) (ho : o.op = .store 49 x y) (g : Nat) (hx : ρ x = .pointer (some ⟨g, 0, none⟩)) (h' : Hf) (hy : ρ y = hfv h') (h : Hf) (hg : HfAt w g h) :
    (execOp ρ o).run Tryz.prog w = .ok .skip (w.setRow g (hfc h')) := by
  unfold execOp
  simp only [ho, hx, hy, hfv, Instr.storeAt, Instr.sureAddr, Sem.run_bind, Sem.run_pure, Result.andThen_ok, run_storeVar_row w g 49 49 _ (hfc h') hg (by rw [infoHalf]; rfl) (by rfl) (hfc_one h')]
theorem wp_store_half {ops : Array Oper} {rest : List Oper} {o : Oper} {a : Act} {w : World} {Q : Exit → Act → World → Prop} (hgd : o.guard = none) (x y : Operand) (ho : o.op = .store 49 x y)
    (g : Nat) (hx : a.eval x = .pointer (some ⟨g, 0, none⟩)) (h' : Hf) (hy : a.eval y = hfv h') (h : Hf) (hg : HfAt w g h)
    (hk : wpList Tryz.prog ops Q rest (a.put o.dst undef) (w.setRow g (hfc h'))) : wpList Tryz.prog ops Q (o :: rest) a w :=
  wpList_store_row hgd 49 x y ho g _ hx hy 49 _ hg (by rw [infoHalf]; rfl) (by rfl) (hfc_one h') hk

def askH (h : Hf) (x : Int) : Hf × Int × Int := if h.o = 0 then ({ h with o := 1, n := x }, 1, x) else (h, 0, 0)
def grantH (h : Hf) : Hf × Int × Int := if h.i = 1 then ({ h with i := 2 }, 3, h.m) else (h, 0, 0)
def leaveH (h : Hf) : Hf × Int × Int := if h.o = 0 then (h, 0, 0) else ({ h with o := 0, n := 0 }, 2, h.n)
def denyH (h : Hf) : Hf × Int × Int := if h.i = 0 then (h, 0, 0) else ({ h with i := 0, m := 0 }, 4, h.m)
def rv3 (r : Hf × Int × Int) : Value := .tuple #[hfv r.1, .int .i64 r.2.1, .int .u64 r.2.2]

theorem ask_any (h : Hf) (x : Int) (w : World) : Calls Tryz.prog 149 #[hfv h, .int .u64 x] w fun e w' => e = .returned (rv3 (askH h x)) ∧ Below w.heap.size w w' := by
  unfold askH rv3 hfv hfc
  by_cases h0 : h.o = 0
  · rw [if_pos h0]
    go_enter Tryz.func149, Tryz.ntmps149
    go_wp2
    simp [bodyPost, results, Tryz.results149, go_sem]
    exact below2 _ _ _
  · rw [if_neg h0]
    go_enter Tryz.func149, Tryz.ntmps149
    go_wp2
    simp [bodyPost, results, Tryz.results149, go_sem]
    exact below2 _ _ _
theorem grant_any (h : Hf) (w : World) : Calls Tryz.prog 150 #[hfv h] w fun e w' => e = .returned (rv3 (grantH h)) ∧ Below w.heap.size w w' := by
  unfold grantH rv3 hfv hfc
  by_cases h0 : h.i = 1
  · rw [if_pos h0]
    go_enter Tryz.func150, Tryz.ntmps150
    go_wp2
    go_region
    all_goals go_wp2
    all_goals simp [bodyPost, results, Tryz.results150, go_sem]
    all_goals exact (below2 _ _ _).drew
  · rw [if_neg h0]
    go_enter Tryz.func150, Tryz.ntmps150
    go_wp2
    simp [bodyPost, results, Tryz.results150, go_sem]
    exact below2 _ _ _

set_option maxHeartbeats 800000 in
theorem leave_any (h : Hf) (w : World) : Calls Tryz.prog 151 #[hfv h] w fun e w' => e = .returned (rv3 (leaveH h)) ∧ Below w.heap.size w w' := by
  unfold leaveH rv3
  by_cases h0 : h.o = 0
  · rw [if_pos h0]
    unfold hfv hfc
    go_enter Tryz.func151, Tryz.ntmps151
    go_wp2
    simp [bodyPost, results, Tryz.results151, go_sem]
    exact ⟨h0.symm, below2 _ _ _⟩
  · rw [if_neg h0]
    have hw := fun w => woOut_any h w
    have hb2 := below2 w (.cells (hfc h) 49) (.cells (hfc ⟨0, 0, 0, 0⟩) 49)
    have A1 : HfAt ((w.alloc (.cells (hfc h) 49)).alloc (.cells (hfc ⟨0, 0, 0, 0⟩) 49)) w.heap.size h := (Below.heap_alloc _ _ _ (by simp)).trans (heap_alloc_new w _)
    have A2 : HfAt ((w.alloc (.cells (hfc h) 49)).alloc (.cells (hfc ⟨0, 0, 0, 0⟩) 49)) (w.heap.size + 1) ⟨0, 0, 0, 0⟩ := by have := heap_alloc_new (w.alloc (.cells (hfc h) 49)) (.cells (hfc ⟨0, 0, 0, 0⟩) 49); simpa [HfAt] using this
    unfold hfv hfc at hw ⊢
    unfold hfc at A1 A2 hb2
    go_enter Tryz.func151, Tryz.ntmps151
    go_upto_region 3 with fail
    refine wp_region_lx (fun w' => HfAt w' w.heap.size h) [] 7 (by kernel_rfl) (by kernel_rfl) ?_
    have A1d := HfAt.drew A1
    have A2d := HfAt.drew A2
    have hbd := Below.drew hb2
    clear A1 A2 hb2
    generalize World.drew _ = W at A1d A2d hbd ⊢
    have HS : HfAt W w.heap.size h := A1d
    refine lx_r 0 (.agg #[.int .i64 h.o, .int .u64 h.n, .int .i64 h.i, .int .u64 h.m]) HS ?_ (hv := fun w' hS => by have z0 := hS.c0; have z1 := hS.c1; have z2 := hS.c2; have z3 := hS.c3; first | (go_simp; rfl) | go_simp); simp only [lxa, lxb, lxc]
    refine lx_r 2 _ HS ?_; simp only [lxa, lxb, lxc]
    refine lx_r 3 (.int .u64 h.n) HS ?_ (hv := fun w' hS => by have z0 := hS.c1; first | (go_simp; rfl) | go_simp); simp only [lxa, lxb, lxc]
    refine lx_one 1 (by kernel_rfl) (stepT_call 176 ?c1 rfl rfl rfl ?d1 ?_)
    case d1 => first | (go_simp; rfl) | go_simp
    refine (hw W).mono ?_
    rintro e w5 ⟨rfl, hb5⟩
    have B1 := A1d.below hb5 A1d.lt
    have B2 := A2d.below hb5 A2d.lt
    have hb6 := hbd.trans (hb5.mono hbd.size)
    refine ⟨_, rfl, fun _ => B1, ?_⟩
    simp only [List.setIfInBounds_toArray, List.set_cons_zero, List.set_cons_succ]
    have C1 : HfAt (w5.setRow (w.heap.size + 1) (hfc (leaveH h).1)) w.heap.size h := B1.row _ (by omega)
    refine lx_one 4 (by kernel_rfl) (stepT_store (w' := w5.setRow (w.heap.size + 1) (hfc (leaveH h).1)) rfl rfl rfl ?d4 (fun _ => C1) ?_)
    case d4 => exact exec_store_half (.tmp 2) (.tmp 10) rfl (w.heap.size + 1) rfl (leaveH h).1 (by unfold leaveH; rw [if_neg h0]; rfl) _ B2
    refine lx_one 5 (by kernel_rfl) (stepT_val (w' := w5.setRow (w.heap.size + 1) (hfc (leaveH h).1)) (.int .i64 2) rfl rfl rfl ?d5 (fun _ => C1) ?_)
    case d5 => first | (go_simp; done) | (go_simp; rfl)
    simp only [List.setIfInBounds_toArray, List.set_cons_zero, List.set_cons_succ]
    refine lx_one 6 (by kernel_rfl) (stepT_val (w' := w5.setRow (w.heap.size + 1) (hfc (leaveH h).1)) (.int .u64 h.n) rfl rfl rfl ?d6 (fun _ => C1) ?_)
    case d6 => first | (go_simp; done) | (go_simp; rfl)
    simp only [List.setIfInBounds_toArray, List.set_cons_zero, List.set_cons_succ]
    refine lx_nil (by kernel_rfl) ?_
    have C2 : HfAt (w5.setRow (w.heap.size + 1) (hfc (leaveH h).1)) (w.heap.size + 1) (leaveH h).1 := B2.set _
    have hb7 := B2.setB hb6 (by omega) (leaveH h).1
    generalize w5.setRow (w.heap.size + 1) (hfc (leaveH h).1) = WX at *
    go_wp2
    unfold leaveH at C2
    rw [if_neg h0] at C2
    simp [bodyPost, results, Tryz.results151, go_sem, C2.c0, C2.c1, C2.c2, C2.c3]
    exact hb7

set_option maxHeartbeats 800000 in
theorem deny_any (h : Hf) (w : World) : Calls Tryz.prog 152 #[hfv h] w fun e w' => e = .returned (rv3 (denyH h)) ∧ Below w.heap.size w w' := by
  unfold denyH rv3
  by_cases h0 : h.i = 0
  · rw [if_pos h0]
    unfold hfv hfc
    go_enter Tryz.func152, Tryz.ntmps152
    go_wp2
    simp [bodyPost, results, Tryz.results152, go_sem]
    exact ⟨h0.symm, below2 _ _ _⟩
  · rw [if_neg h0]
    have hw := fun w => woIn_any h w
    have hb2 := below2 w (.cells (hfc h) 49) (.cells (hfc ⟨0, 0, 0, 0⟩) 49)
    have A1 : HfAt ((w.alloc (.cells (hfc h) 49)).alloc (.cells (hfc ⟨0, 0, 0, 0⟩) 49)) w.heap.size h := (Below.heap_alloc _ _ _ (by simp)).trans (heap_alloc_new w _)
    have A2 : HfAt ((w.alloc (.cells (hfc h) 49)).alloc (.cells (hfc ⟨0, 0, 0, 0⟩) 49)) (w.heap.size + 1) ⟨0, 0, 0, 0⟩ := by have := heap_alloc_new (w.alloc (.cells (hfc h) 49)) (.cells (hfc ⟨0, 0, 0, 0⟩) 49); simpa [HfAt] using this
    unfold hfv hfc at hw ⊢
    unfold hfc at A1 A2 hb2
    go_enter Tryz.func152, Tryz.ntmps152
    go_upto_region 3 with fail
    refine wp_region_lx (fun w' => HfAt w' w.heap.size h) [] 7 (by kernel_rfl) (by kernel_rfl) ?_
    have A1d := HfAt.drew A1
    have A2d := HfAt.drew A2
    have hbd := Below.drew hb2
    clear A1 A2 hb2
    generalize World.drew _ = W at A1d A2d hbd ⊢
    have HS : HfAt W w.heap.size h := A1d
    refine lx_r 0 (.agg #[.int .i64 h.o, .int .u64 h.n, .int .i64 h.i, .int .u64 h.m]) HS ?_ (hv := fun w' hS => by have z0 := hS.c0; have z1 := hS.c1; have z2 := hS.c2; have z3 := hS.c3; first | (go_simp; rfl) | go_simp); simp only [lxa, lxb, lxc]
    refine lx_r 2 _ HS ?_; simp only [lxa, lxb, lxc]
    refine lx_r 3 (.int .u64 h.m) HS ?_ (hv := fun w' hS => by have z0 := hS.c3; first | (go_simp; rfl) | go_simp); simp only [lxa, lxb, lxc]
    refine lx_one 1 (by kernel_rfl) (stepT_call 177 ?c1 rfl rfl rfl ?d1 ?_)
    case d1 => first | (go_simp; rfl) | go_simp
    refine (hw W).mono ?_
    rintro e w5 ⟨rfl, hb5⟩
    have B1 := A1d.below hb5 A1d.lt
    have B2 := A2d.below hb5 A2d.lt
    have hb6 := hbd.trans (hb5.mono hbd.size)
    refine ⟨_, rfl, fun _ => B1, ?_⟩
    simp only [List.setIfInBounds_toArray, List.set_cons_zero, List.set_cons_succ]
    have C1 : HfAt (w5.setRow (w.heap.size + 1) (hfc (denyH h).1)) w.heap.size h := B1.row _ (by omega)
    refine lx_one 4 (by kernel_rfl) (stepT_store (w' := w5.setRow (w.heap.size + 1) (hfc (denyH h).1)) rfl rfl rfl ?d4 (fun _ => C1) ?_)
    case d4 => exact exec_store_half (.tmp 2) (.tmp 10) rfl (w.heap.size + 1) rfl (denyH h).1 (by unfold denyH; rw [if_neg h0]; rfl) _ B2
    refine lx_one 5 (by kernel_rfl) (stepT_val (w' := w5.setRow (w.heap.size + 1) (hfc (denyH h).1)) (.int .i64 4) rfl rfl rfl ?d5 (fun _ => C1) ?_)
    case d5 => first | (go_simp; done) | (go_simp; rfl)
    simp only [List.setIfInBounds_toArray, List.set_cons_zero, List.set_cons_succ]
    refine lx_one 6 (by kernel_rfl) (stepT_val (w' := w5.setRow (w.heap.size + 1) (hfc (denyH h).1)) (.int .u64 h.m) rfl rfl rfl ?d6 (fun _ => C1) ?_)
    case d6 => first | (go_simp; done) | (go_simp; rfl)
    simp only [List.setIfInBounds_toArray, List.set_cons_zero, List.set_cons_succ]
    refine lx_nil (by kernel_rfl) ?_
    have C2 : HfAt (w5.setRow (w.heap.size + 1) (hfc (denyH h).1)) (w.heap.size + 1) (denyH h).1 := B2.set _
    have hb7 := B2.setB hb6 (by omega) (denyH h).1
    generalize w5.setRow (w.heap.size + 1) (hfc (denyH h).1) = WX at *
    go_wp2
    unfold denyH at C2
    rw [if_neg h0] at C2
    simp [bodyPost, results, Tryz.results152, go_sem, C2.c0, C2.c1, C2.c2, C2.c3]
    exact hb7
end Go.Proofs.YtppdopcghnfapaaGreatDoor

/- subs: what is heard; act and hear. -/
set_option maxRecDepth 100000
namespace Go.Proofs.YtppdopcghnfapaaGreatDoor
open Go.RowKit Go.Joins

def hAskH (h : Hf) (x : Int) : Hf × Int := ({ h with i := 1, m := x }, 42)
def hLeaveH (h : Hf) (x : Int) : Hf × Int := if h.i = 0 then (h, 0) else if h.m = x then ({ h with i := 0, m := 0 }, 44) else (h, 0)
def hGrantH (h : Hf) (x : Int) : Hf × Int := if h.o = 1 then (if h.n = x then ({ h with o := 2 }, 43) else (h, 0)) else (h, 0)
def hDenyH (h : Hf) (x : Int) : Hf × Int := if h.o = 0 then (h, 0) else if h.n = x then ({ h with o := 0, n := 0 }, 45) else (h, 0)
def rv2 (r : Hf × Int) : Value := .tuple #[hfv r.1, .int .i64 r.2]

theorem hAsk_any (h : Hf) (x : Int) (w : World) : Calls Tryz.prog 153 #[hfv h, .int .u64 x] w fun e w' => e = .returned (rv2 (hAskH h x)) ∧ Below w.heap.size w w' := by
  unfold hAskH rv2 hfv hfc
  go_enter Tryz.func153, Tryz.ntmps153
  go_wp2
  simp [bodyPost, results, Tryz.results153, go_sem]
  exact below2 _ _ _
theorem hGrant_any (h : Hf) (x : Int) (w : World) : Calls Tryz.prog 155 #[hfv h, .int .u64 x] w fun e w' => e = .returned (rv2 (hGrantH h x)) ∧ Below w.heap.size w w' := by
  unfold hGrantH rv2 hfv hfc
  by_cases h0 : h.o = 1
  · rw [if_pos h0]
    by_cases h1 : h.n = x
    · rw [if_pos h1]
      go_enter Tryz.func155, Tryz.ntmps155
      go_wp2
      simp [bodyPost, results, Tryz.results155, go_sem]
      exact ⟨h1.symm, below2 _ _ _⟩
    · rw [if_neg h1]
      go_enter Tryz.func155, Tryz.ntmps155
      go_wp2
      simp [bodyPost, results, Tryz.results155, go_sem]
      exact ⟨h0.symm, below2 _ _ _⟩
  · rw [if_neg h0]
    go_enter Tryz.func155, Tryz.ntmps155
    go_wp2
    simp [bodyPost, results, Tryz.results155, go_sem]
    exact below2 _ _ _

set_option maxHeartbeats 800000 in
theorem hLeave_any (h : Hf) (x : Int) (w : World) : Calls Tryz.prog 154 #[hfv h, .int .u64 x] w fun e w' => e = .returned (rv2 (hLeaveH h x)) ∧ Below w.heap.size w w' := by
  unfold hLeaveH rv2
  by_cases h0 : h.i = 0
  · rw [if_pos h0]
    unfold hfv hfc
    go_enter Tryz.func154, Tryz.ntmps154
    go_wp2
    simp [bodyPost, results, Tryz.results154, go_sem]
    exact ⟨h0.symm, below2 _ _ _⟩
  · rw [if_neg h0]
    by_cases h1 : h.m = x
    · rw [if_pos h1]
      subst h1
      have hw := fun w => woIn_any h w
      have hb2 := below2 w (.cells (hfc h) 49) (.cells (hfc ⟨0, 0, 0, 0⟩) 49)
      have A2 : HfAt ((w.alloc (.cells (hfc h) 49)).alloc (.cells (hfc ⟨0, 0, 0, 0⟩) 49)) (w.heap.size + 1) ⟨0, 0, 0, 0⟩ := by have := heap_alloc_new (w.alloc (.cells (hfc h) 49)) (.cells (hfc ⟨0, 0, 0, 0⟩) 49); simpa [HfAt] using this
      unfold hfv hfc at hw ⊢
      unfold hfc at A2 hb2
      go_enter Tryz.func154, Tryz.ntmps154
      go_wp2_with (first
        | (go_at_call 177; refine (hw _).mono ?_; rintro e w5 ⟨rfl, hb5⟩; have B2 := A2.below hb5 A2.lt; have hb6 := hb2.trans (hb5.mono hb2.size))
        | (refine wp_store_half rfl (.tmp 4) (.tmp 17) rfl (w.heap.size + 1) rfl ⟨h.o, h.n, 0, 0⟩ rfl _ B2 ?_; have C2 := B2.set ⟨h.o, h.n, 0, 0⟩; have hb7 := B2.setB hb6 (by omega) ⟨h.o, h.n, 0, 0⟩; generalize w5.setRow (w.heap.size + 1) (hfc ⟨h.o, h.n, 0, 0⟩) = WX at *))
      simp [bodyPost, results, Tryz.results154, go_sem, C2.c0, C2.c1, C2.c2, C2.c3]
      exact hb7
    · rw [if_neg h1]
      have hq : (h.i == 0 || h.m != x) = true := by simp [h1]
      unfold hfv hfc
      go_enter Tryz.func154, Tryz.ntmps154
      go_wp2
      simp [bodyPost, results, Tryz.results154, go_sem]
      exact below2 _ _ _

set_option maxHeartbeats 800000 in
theorem hDeny_any (h : Hf) (x : Int) (w : World) : Calls Tryz.prog 156 #[hfv h, .int .u64 x] w fun e w' => e = .returned (rv2 (hDenyH h x)) ∧ Below w.heap.size w w' := by
  unfold hDenyH rv2
  by_cases h0 : h.o = 0
  · rw [if_pos h0]
    unfold hfv hfc
    go_enter Tryz.func156, Tryz.ntmps156
    go_wp2
    simp [bodyPost, results, Tryz.results156, go_sem]
    exact ⟨h0.symm, below2 _ _ _⟩
  · rw [if_neg h0]
    by_cases h1 : h.n = x
    · rw [if_pos h1]
      subst h1
      have hw := fun w => woOut_any h w
      have hb2 := below2 w (.cells (hfc h) 49) (.cells (hfc ⟨0, 0, 0, 0⟩) 49)
      have A2 : HfAt ((w.alloc (.cells (hfc h) 49)).alloc (.cells (hfc ⟨0, 0, 0, 0⟩) 49)) (w.heap.size + 1) ⟨0, 0, 0, 0⟩ := by have := heap_alloc_new (w.alloc (.cells (hfc h) 49)) (.cells (hfc ⟨0, 0, 0, 0⟩) 49); simpa [HfAt] using this
      unfold hfv hfc at hw ⊢
      unfold hfc at A2 hb2
      go_enter Tryz.func156, Tryz.ntmps156
      go_wp2_with (first
        | (go_at_call 176; refine (hw _).mono ?_; rintro e w5 ⟨rfl, hb5⟩; have B2 := A2.below hb5 A2.lt; have hb6 := hb2.trans (hb5.mono hb2.size))
        | (refine wp_store_half rfl (.tmp 4) (.tmp 17) rfl (w.heap.size + 1) rfl ⟨0, 0, h.i, h.m⟩ rfl _ B2 ?_; have C2 := B2.set ⟨0, 0, h.i, h.m⟩; have hb7 := B2.setB hb6 (by omega) ⟨0, 0, h.i, h.m⟩; generalize w5.setRow (w.heap.size + 1) (hfc ⟨0, 0, h.i, h.m⟩) = WX at *))
      simp [bodyPost, results, Tryz.results156, go_sem, C2.c0, C2.c1, C2.c2, C2.c3]
      exact hb7
    · rw [if_neg h1]
      have hq : (h.o == 0 || h.n != x) = true := by simp [h1]
      unfold hfv hfc
      go_enter Tryz.func156, Tryz.ntmps156
      go_wp2
      simp [bodyPost, results, Tryz.results156, go_sem]
      exact below2 _ _ _
end Go.Proofs.YtppdopcghnfapaaGreatDoor

/- subs: act and hear, whatever the kind. -/
set_option maxRecDepth 100000
namespace Go.Proofs.YtppdopcghnfapaaGreatDoor
open Go.RowKit Go.Joins

/-- What an act does; none: it gives up. -/
def actH (h : Hf) (kind x : Int) : Option (Hf × Int × Int) :=
  if kind = 11 then (if x = 0 then none else some (askH h x)) else if kind = 12 then some (grantH h) else if kind = 13 then some (leaveH h) else if kind = 14 then some (denyH h) else none
/-- What is heard; none: it gives up. -/
def hearH (h : Hf) (mail x : Int) : Option (Hf × Int) :=
  if mail = 1 then some (hAskH h x) else if mail = 2 then some (hLeaveH h x) else if mail = 3 then some (hGrantH h x) else if mail = 4 then some (hDenyH h x) else none
def got (v : Option Value) (e : Ending) : Prop := match v with
  | some v => e = .returned v
  | none => e = .panicked (gaveS 1)

set_option maxHeartbeats 1600000 in
theorem act_any (h : Hf) (kind x : Int) (w : World) : Calls Tryz.prog 123 #[hfv h, .int .i64 kind, .int .u64 x] w fun e w' => got ((actH h kind x).map rv3) e ∧ Below w.heap.size w w' := by
  by_cases k1 : kind = 11
  · subst k1
    by_cases x0 : x = 0
    · rw [show actH h 11 x = none from by unfold actH; rw [if_pos rfl, if_pos x0]]
      show Calls _ _ _ _ fun e w' => e = .panicked (gaveS 1) ∧ Below w.heap.size w w'
      unfold hfv hfc
      go_enter Tryz.func123, Tryz.ntmps123
      go_wp2_with (first
        | (go_at_call 125; refine (demand_no _).mono ?_; rintro e w1 ⟨rfl, rfl⟩)
        | fail)
      exact ⟨rfl, rfl, below2 _ _ _⟩
    · have hw := fun w => ask_any h x w
      obtain ⟨r, hr⟩ : ∃ r, r = askH h x := ⟨_, rfl⟩
      rw [← hr] at hw
      rw [show actH h 11 x = some r from by rw [hr]; unfold actH; rw [if_pos rfl, if_neg x0]]
      clear hr
      unfold rv3 hfv hfc at hw
      have hb2 := below2 w (.cells (hfc h) 49) (.cells (hfc ⟨0, 0, 0, 0⟩) 49)
      have A2 : HfAt ((w.alloc (.cells (hfc h) 49)).alloc (.cells (hfc ⟨0, 0, 0, 0⟩) 49)) (w.heap.size + 1) ⟨0, 0, 0, 0⟩ := by have := heap_alloc_new (w.alloc (.cells (hfc h) 49)) (.cells (hfc ⟨0, 0, 0, 0⟩) 49); simpa [HfAt] using this
      show Calls _ _ _ _ fun e w' => e = .returned (rv3 r) ∧ Below w.heap.size w w'
      unfold rv3 hfv hfc
      unfold hfc at A2 hb2
      have hx : (x != 0) = true := by simp [x0]
      go_enter Tryz.func123, Tryz.ntmps123
      go_wp2_with (first
        | (go_at_call 125; refine (demand_ok _).mono ?_; rintro e w1 ⟨rfl, rfl⟩)
        | (go_at_call 149; refine (hw _).mono ?_; rintro e w5 ⟨rfl, hb5⟩; have B2 := A2.below hb5 A2.lt; have hb6 := hb2.trans (hb5.mono hb2.size))
        | (refine wp_store_half rfl (.tmp 6) (.tmp 18) rfl (w.heap.size + 1) rfl r.1 rfl _ B2 ?_; have C2 := B2.set r.1; have hb7 := B2.setB hb6 (by omega) r.1; generalize w5.setRow (w.heap.size + 1) (hfc r.1) = WX at *))
      simp [bodyPost, results, Tryz.results123, go_sem, C2.c0, C2.c1, C2.c2, C2.c3]
      exact hb7
  by_cases k2 : kind = 12
  · subst k2
    have hw := fun w => grant_any h w
    obtain ⟨r, hr⟩ : ∃ r, r = grantH h := ⟨_, rfl⟩
    rw [← hr] at hw
    rw [show actH h 12 x = some r from by rw [hr]; unfold actH; rw [if_neg (by decide), if_pos rfl]]
    clear hr
    unfold rv3 hfv hfc at hw
    have hb2 := below2 w (.cells (hfc h) 49) (.cells (hfc ⟨0, 0, 0, 0⟩) 49)
    have A2 : HfAt ((w.alloc (.cells (hfc h) 49)).alloc (.cells (hfc ⟨0, 0, 0, 0⟩) 49)) (w.heap.size + 1) ⟨0, 0, 0, 0⟩ := by have := heap_alloc_new (w.alloc (.cells (hfc h) 49)) (.cells (hfc ⟨0, 0, 0, 0⟩) 49); simpa [HfAt] using this
    show Calls _ _ _ _ fun e w' => e = .returned (rv3 r) ∧ Below w.heap.size w w'
    unfold rv3 hfv hfc
    unfold hfc at A2 hb2
    go_enter Tryz.func123, Tryz.ntmps123
    go_wp2_with (first
      | (go_at_call 150; refine (hw _).mono ?_; rintro e w5 ⟨rfl, hb5⟩; have B2 := A2.below hb5 A2.lt; have hb6 := hb2.trans (hb5.mono hb2.size))
      | (refine wp_store_half rfl (.tmp 6) (.tmp 25) rfl (w.heap.size + 1) rfl r.1 rfl _ B2 ?_; have C2 := B2.set r.1; have hb7 := B2.setB hb6 (by omega) r.1; generalize w5.setRow (w.heap.size + 1) (hfc r.1) = WX at *))
    simp [bodyPost, results, Tryz.results123, go_sem, C2.c0, C2.c1, C2.c2, C2.c3]
    exact hb7
  by_cases k3 : kind = 13
  · subst k3
    have hw := fun w => leave_any h w
    obtain ⟨r, hr⟩ : ∃ r, r = leaveH h := ⟨_, rfl⟩
    rw [← hr] at hw
    rw [show actH h 13 x = some r from by rw [hr]; unfold actH; rw [if_neg (by decide), if_neg (by decide), if_pos rfl]]
    clear hr
    unfold rv3 hfv hfc at hw
    have hb2 := below2 w (.cells (hfc h) 49) (.cells (hfc ⟨0, 0, 0, 0⟩) 49)
    have A2 : HfAt ((w.alloc (.cells (hfc h) 49)).alloc (.cells (hfc ⟨0, 0, 0, 0⟩) 49)) (w.heap.size + 1) ⟨0, 0, 0, 0⟩ := by have := heap_alloc_new (w.alloc (.cells (hfc h) 49)) (.cells (hfc ⟨0, 0, 0, 0⟩) 49); simpa [HfAt] using this
    show Calls _ _ _ _ fun e w' => e = .returned (rv3 r) ∧ Below w.heap.size w w'
    unfold rv3 hfv hfc
    unfold hfc at A2 hb2
    go_enter Tryz.func123, Tryz.ntmps123
    go_wp2_with (first
      | (go_at_call 151; refine (hw _).mono ?_; rintro e w5 ⟨rfl, hb5⟩; have B2 := A2.below hb5 A2.lt; have hb6 := hb2.trans (hb5.mono hb2.size))
      | (refine wp_store_half rfl (.tmp 6) (.tmp 32) rfl (w.heap.size + 1) rfl r.1 rfl _ B2 ?_; have C2 := B2.set r.1; have hb7 := B2.setB hb6 (by omega) r.1; generalize w5.setRow (w.heap.size + 1) (hfc r.1) = WX at *))
    simp [bodyPost, results, Tryz.results123, go_sem, C2.c0, C2.c1, C2.c2, C2.c3]
    exact hb7
  by_cases k4 : kind = 14
  · subst k4
    have hw := fun w => deny_any h w
    obtain ⟨r, hr⟩ : ∃ r, r = denyH h := ⟨_, rfl⟩
    rw [← hr] at hw
    rw [show actH h 14 x = some r from by rw [hr]; unfold actH; rw [if_neg (by decide), if_neg (by decide), if_neg (by decide), if_pos rfl]]
    clear hr
    unfold rv3 hfv hfc at hw
    have hb2 := below2 w (.cells (hfc h) 49) (.cells (hfc ⟨0, 0, 0, 0⟩) 49)
    have A2 : HfAt ((w.alloc (.cells (hfc h) 49)).alloc (.cells (hfc ⟨0, 0, 0, 0⟩) 49)) (w.heap.size + 1) ⟨0, 0, 0, 0⟩ := by have := heap_alloc_new (w.alloc (.cells (hfc h) 49)) (.cells (hfc ⟨0, 0, 0, 0⟩) 49); simpa [HfAt] using this
    show Calls _ _ _ _ fun e w' => e = .returned (rv3 r) ∧ Below w.heap.size w w'
    unfold rv3 hfv hfc
    unfold hfc at A2 hb2
    go_enter Tryz.func123, Tryz.ntmps123
    go_wp2_with (first
      | (go_at_call 152; refine (hw _).mono ?_; rintro e w5 ⟨rfl, hb5⟩; have B2 := A2.below hb5 A2.lt; have hb6 := hb2.trans (hb5.mono hb2.size))
      | (refine wp_store_half rfl (.tmp 6) (.tmp 39) rfl (w.heap.size + 1) rfl r.1 rfl _ B2 ?_; have C2 := B2.set r.1; have hb7 := B2.setB hb6 (by omega) r.1; generalize w5.setRow (w.heap.size + 1) (hfc r.1) = WX at *))
    simp [bodyPost, results, Tryz.results123, go_sem, C2.c0, C2.c1, C2.c2, C2.c3]
    exact hb7
  rw [show actH h kind x = none from by unfold actH; rw [if_neg k1, if_neg k2, if_neg k3, if_neg k4]]
  show Calls _ _ _ _ fun e w' => e = .panicked (gaveS 1) ∧ Below w.heap.size w w'
  unfold hfv hfc
  go_enter Tryz.func123, Tryz.ntmps123
  go_wp2_with (first
    | fail)
  exact ⟨rfl, rfl, below2 _ _ _⟩

set_option maxHeartbeats 1600000 in
theorem hear_any (h : Hf) (mail x : Int) (w : World) : Calls Tryz.prog 126 #[hfv h, .int .i64 mail, .int .u64 x] w fun e w' => got ((hearH h mail x).map rv2) e ∧ Below w.heap.size w w' := by
  by_cases k1 : mail = 1
  · subst k1
    have hw := fun w => hAsk_any h x w
    obtain ⟨r, hr⟩ : ∃ r, r = hAskH h x := ⟨_, rfl⟩
    rw [← hr] at hw
    rw [show hearH h 1 x = some r from by rw [hr]; unfold hearH; rw [if_pos rfl]]
    clear hr
    unfold rv2 hfv hfc at hw
    have hb2 := below2 w (.cells (hfc h) 49) (.cells (hfc ⟨0, 0, 0, 0⟩) 49)
    have A2 : HfAt ((w.alloc (.cells (hfc h) 49)).alloc (.cells (hfc ⟨0, 0, 0, 0⟩) 49)) (w.heap.size + 1) ⟨0, 0, 0, 0⟩ := by have := heap_alloc_new (w.alloc (.cells (hfc h) 49)) (.cells (hfc ⟨0, 0, 0, 0⟩) 49); simpa [HfAt] using this
    show Calls _ _ _ _ fun e w' => e = .returned (rv2 r) ∧ Below w.heap.size w w'
    unfold rv2 hfv hfc
    unfold hfc at A2 hb2
    go_enter Tryz.func126, Tryz.ntmps126
    go_wp2_with (first
      | (go_at_call 153; refine (hw _).mono ?_; rintro e w5 ⟨rfl, hb5⟩; have B2 := A2.below hb5 A2.lt; have hb6 := hb2.trans (hb5.mono hb2.size))
      | (refine wp_store_half rfl (.tmp 6) (.tmp 14) rfl (w.heap.size + 1) rfl r.1 rfl _ B2 ?_; have C2 := B2.set r.1; have hb7 := B2.setB hb6 (by omega) r.1; generalize w5.setRow (w.heap.size + 1) (hfc r.1) = WX at *))
    simp [bodyPost, results, Tryz.results126, go_sem, C2.c0, C2.c1, C2.c2, C2.c3]
    exact hb7
  by_cases k2 : mail = 2
  · subst k2
    have hw := fun w => hLeave_any h x w
    obtain ⟨r, hr⟩ : ∃ r, r = hLeaveH h x := ⟨_, rfl⟩
    rw [← hr] at hw
    rw [show hearH h 2 x = some r from by rw [hr]; unfold hearH; rw [if_neg (by decide), if_pos rfl]]
    clear hr
    unfold rv2 hfv hfc at hw
    have hb2 := below2 w (.cells (hfc h) 49) (.cells (hfc ⟨0, 0, 0, 0⟩) 49)
    have A2 : HfAt ((w.alloc (.cells (hfc h) 49)).alloc (.cells (hfc ⟨0, 0, 0, 0⟩) 49)) (w.heap.size + 1) ⟨0, 0, 0, 0⟩ := by have := heap_alloc_new (w.alloc (.cells (hfc h) 49)) (.cells (hfc ⟨0, 0, 0, 0⟩) 49); simpa [HfAt] using this
    show Calls _ _ _ _ fun e w' => e = .returned (rv2 r) ∧ Below w.heap.size w w'
    unfold rv2 hfv hfc
    unfold hfc at A2 hb2
    go_enter Tryz.func126, Tryz.ntmps126
    go_wp2_with (first
      | (go_at_call 154; refine (hw _).mono ?_; rintro e w5 ⟨rfl, hb5⟩; have B2 := A2.below hb5 A2.lt; have hb6 := hb2.trans (hb5.mono hb2.size))
      | (refine wp_store_half rfl (.tmp 6) (.tmp 21) rfl (w.heap.size + 1) rfl r.1 rfl _ B2 ?_; have C2 := B2.set r.1; have hb7 := B2.setB hb6 (by omega) r.1; generalize w5.setRow (w.heap.size + 1) (hfc r.1) = WX at *))
    simp [bodyPost, results, Tryz.results126, go_sem, C2.c0, C2.c1, C2.c2, C2.c3]
    exact hb7
  by_cases k3 : mail = 3
  · subst k3
    have hw := fun w => hGrant_any h x w
    obtain ⟨r, hr⟩ : ∃ r, r = hGrantH h x := ⟨_, rfl⟩
    rw [← hr] at hw
    rw [show hearH h 3 x = some r from by rw [hr]; unfold hearH; rw [if_neg (by decide), if_neg (by decide), if_pos rfl]]
    clear hr
    unfold rv2 hfv hfc at hw
    have hb2 := below2 w (.cells (hfc h) 49) (.cells (hfc ⟨0, 0, 0, 0⟩) 49)
    have A2 : HfAt ((w.alloc (.cells (hfc h) 49)).alloc (.cells (hfc ⟨0, 0, 0, 0⟩) 49)) (w.heap.size + 1) ⟨0, 0, 0, 0⟩ := by have := heap_alloc_new (w.alloc (.cells (hfc h) 49)) (.cells (hfc ⟨0, 0, 0, 0⟩) 49); simpa [HfAt] using this
    show Calls _ _ _ _ fun e w' => e = .returned (rv2 r) ∧ Below w.heap.size w w'
    unfold rv2 hfv hfc
    unfold hfc at A2 hb2
    go_enter Tryz.func126, Tryz.ntmps126
    go_wp2_with (first
      | (go_at_call 155; refine (hw _).mono ?_; rintro e w5 ⟨rfl, hb5⟩; have B2 := A2.below hb5 A2.lt; have hb6 := hb2.trans (hb5.mono hb2.size))
      | (refine wp_store_half rfl (.tmp 6) (.tmp 28) rfl (w.heap.size + 1) rfl r.1 rfl _ B2 ?_; have C2 := B2.set r.1; have hb7 := B2.setB hb6 (by omega) r.1; generalize w5.setRow (w.heap.size + 1) (hfc r.1) = WX at *))
    simp [bodyPost, results, Tryz.results126, go_sem, C2.c0, C2.c1, C2.c2, C2.c3]
    exact hb7
  by_cases k4 : mail = 4
  · subst k4
    have hw := fun w => hDeny_any h x w
    obtain ⟨r, hr⟩ : ∃ r, r = hDenyH h x := ⟨_, rfl⟩
    rw [← hr] at hw
    rw [show hearH h 4 x = some r from by rw [hr]; unfold hearH; rw [if_neg (by decide), if_neg (by decide), if_neg (by decide), if_pos rfl]]
    clear hr
    unfold rv2 hfv hfc at hw
    have hb2 := below2 w (.cells (hfc h) 49) (.cells (hfc ⟨0, 0, 0, 0⟩) 49)
    have A2 : HfAt ((w.alloc (.cells (hfc h) 49)).alloc (.cells (hfc ⟨0, 0, 0, 0⟩) 49)) (w.heap.size + 1) ⟨0, 0, 0, 0⟩ := by have := heap_alloc_new (w.alloc (.cells (hfc h) 49)) (.cells (hfc ⟨0, 0, 0, 0⟩) 49); simpa [HfAt] using this
    show Calls _ _ _ _ fun e w' => e = .returned (rv2 r) ∧ Below w.heap.size w w'
    unfold rv2 hfv hfc
    unfold hfc at A2 hb2
    go_enter Tryz.func126, Tryz.ntmps126
    go_wp2_with (first
      | (go_at_call 156; refine (hw _).mono ?_; rintro e w5 ⟨rfl, hb5⟩; have B2 := A2.below hb5 A2.lt; have hb6 := hb2.trans (hb5.mono hb2.size))
      | (refine wp_store_half rfl (.tmp 6) (.tmp 35) rfl (w.heap.size + 1) rfl r.1 rfl _ B2 ?_; have C2 := B2.set r.1; have hb7 := B2.setB hb6 (by omega) r.1; generalize w5.setRow (w.heap.size + 1) (hfc r.1) = WX at *))
    simp [bodyPost, results, Tryz.results126, go_sem, C2.c0, C2.c1, C2.c2, C2.c3]
    exact hb7
  rw [show hearH h mail x = none from by unfold hearH; rw [if_neg k1, if_neg k2, if_neg k3, if_neg k4]]
  show Calls _ _ _ _ fun e w' => e = .panicked (gaveS 1) ∧ Below w.heap.size w w'
  unfold hfv hfc
  go_enter Tryz.func126, Tryz.ntmps126
  go_wp2_with (first
    | fail)
  exact ⟨rfl, rfl, below2 _ _ _⟩
end Go.Proofs.YtppdopcghnfapaaGreatDoor

/- subs: attempt; Act and Hear. -/
set_option maxRecDepth 100000
namespace Go.Proofs.YtppdopcghnfapaaGreatDoor
open Go.RowKit Go.Joins

/-- It went through, or it gave up with the error's number. -/
def Gs (n : Nat) (e : Ending) : Prop := (n = 0 ∧ e = .returned (.tuple #[])) ∨ (n ≠ 0 ∧ e = .panicked (gaveS n))
theorem gs_no {en : Nat} (h : en ≠ 0) {e : Ending} (he : e = .panicked (gaveS en)) : Gs en e := Or.inr ⟨h, he⟩

theorem cell_one {w : World} {B : Nat} {v : Value} {t : TypeId} (h : w.heap[B]? = some (.cells #[v] t (0, 0))) : w.cell? ⟨B, 0, none⟩ = some v := by simp [World.cell?, h]
theorem thaw_one {w : World} {B : Nat} {v : Value} {t : TypeId} (h : w.heap[B]? = some (.cells #[v] t (0, 0))) : w.frozen? ⟨B, 0, none⟩ = false := by simp [World.frozen?, h]
theorem alloc_at (w : World) (o : Obj) : (w.alloc o).heap[w.heap.size]? = some o := by
  show (w.heap.push o)[w.heap.size]? = _
  simp
theorem box_keep {S : Nat → Prop} {w w' : World} {b : Nat} {o : Obj} (h : w.heap[b]? = some o) (hk : Keep S w w') (hs : ¬ S b) : w'.heap[b]? = some o := (hk.block b (Array.getElem?_eq_some_iff.1 h).1 hs).trans h
theorem box_below {w w' : World} {b : Nat} {o : Obj} (h : w.heap[b]? = some o) (hk : Below w.heap.size w w') : w'.heap[b]? = some o := (hk.block b (Array.getElem?_eq_some_iff.1 h).1).trans h

theorem catchS_panicking (p : Addr) (x : Int) (n : Nat) (w : World) (hc : w.cell? p = some (.int .i64 x)) (hz : w.frozen? p = false) :
    CallsD Tryz.prog 147 #[.pointer (some p)] (.panicking (gaveS n)) w fun e u' w' =>
      e = .returned (.tuple #[]) ∧ u' = .panicking [{ v := .iface 179 (.agg #[.int .i64 n]), recovered := true }] ∧ w' = w.setCell p (.int .i64 n) := by
  unfold gaveS
  refine callsD_of_wpS Tryz.func147 rfl fun c₀ cs hu => ?_
  apply wpS_seq
  apply wpS_region
  simp [wpOpsS, go_sem, recoverD, hu, Tryz.ntmps147, Exit.thenS]
  refine wpS_of_wp ?_
  rw [show #[Value.pointer (some p)] ++ ((Array.replicate 7 undef).setIfInBounds 1 (Value.iface 179 (Value.agg #[Value.int IntKind.i64 n]))).setIfInBounds 0 (Value.iface 179 (Value.agg #[Value.int IntKind.i64 n])) = #[Value.pointer (some p), Value.iface 179 (Value.agg #[Value.int IntKind.i64 n]), Value.iface 179 (Value.agg #[Value.int IntKind.i64 n]), undef, undef, undef, undef, undef] from rfl]
  have hta : (Instr.typeAssert (Value.iface 179 (Value.agg #[Value.int IntKind.i64 n])) 20 179 false).run Tryz.prog w = .ok (Value.agg #[Value.int IntKind.i64 n]) w := by
    simp [Instr.typeAssert, go_sem]
  have hfd : (Instr.field 179 (Value.agg #[Value.int IntKind.i64 n]) 0).run Tryz.prog w = .ok (Value.int IntKind.i64 n) w := by
    simp [Instr.field, go_sem, asAgg]
  go_wp2
  simp [bodyPostS, results, Tryz.results147]
theorem catchS_idle (p : Addr) (w : World) :
    CallsD Tryz.prog 147 #[.pointer (some p)] .returning w fun e u' w' => e = .returned (.tuple #[]) ∧ u' = .returning ∧ w' = w := by
  refine callsD_of_wpS Tryz.func147 rfl fun c₀ cs hu => ?_
  apply wpS_seq
  apply wpS_region
  simp [wpOpsS, go_sem, recoverD, hu, Tryz.ntmps147, Exit.thenS]
  refine wpS_of_wp ?_
  rw [show #[Value.pointer (some p)] ++ ((Array.replicate 7 undef).setIfInBounds 1 Value.nilIface).setIfInBounds 0 Value.nilIface = #[Value.pointer (some p), Value.nilIface, Value.nilIface, undef, undef, undef, undef, undef] from rfl]
  go_wp2
  cases c₀
  simp_all [bodyPostS, results, Tryz.results147]

set_option maxHeartbeats 800000 in
/-- attempt: what is done goes through, or gives up. -/
theorem attemptS (k : Nat) (caps : Array Value) (n : Nat) (Post : World → Prop) (w : World) (hent : ∀ args w, (callFunc k args).run Tryz.prog w = .ok (.enter k args) w)
    (hc : Calls Tryz.prog k caps (w.alloc (.cells #[.int .i64 0] 24)) fun e w' => Gs n e ∧ Post w' ∧ w'.heap[w.heap.size]? = some (.cells #[.int .i64 0] 24 (0, 0))) :
    Calls Tryz.prog 120 #[.func (.func k) #[] caps] w fun e w' => e = .returned (.int .i64 n) ∧ ∃ w1, Post w1 ∧ w' = w1.setCell ⟨w.heap.size, 0, none⟩ (.int .i64 n) := by
  have hmf : ∀ (fn : Fn) (first cap : Array Value) (w : World), (Instr.makeFunc fn first cap).run Tryz.prog w = .ok (.func fn first cap) w := fun _ _ _ _ => rfl
  by_cases h0 : n = 0
  · subst h0
    have hc' := hc.mono (fun e w' h => And.intro (h.1.elim (fun k => k.2) (fun k => absurd rfl k.1)) h.2 : ∀ e w', _ → (e = .returned (.tuple #[]) ∧ _))
    clear hc
    go_enter_defers Tryz.func120, Tryz.ntmps120
    go_wp2_with (first
      | (go_at_fn k; refine hc'.mono ?_; rintro e w1 ⟨rfl, hP, hB⟩; have hcl := cell_one hB; have hfz := thaw_one hB))
    refine leaves_cons (f := 147) (args := #[.pointer (some ⟨w.heap.size, 0, none⟩)]) (by simp) (by simp [go_sem]) ?_
    refine (catchS_idle ⟨w.heap.size, 0, none⟩ _).mono ?_
    rintro e u' w2 ⟨rfl, rfl, rfl⟩
    simp [Leaves, settle, results, Tryz.results120, go_sem, hcl]
    exact ⟨w1, hP, rfl⟩
  · have hc' := hc.mono (fun e w' h => And.intro (h.1.elim (fun k => absurd k.1 h0) (fun k => k.2)) h.2 : ∀ e w', _ → (e = .panicked (gaveS n) ∧ _))
    clear hc
    go_enter_defers Tryz.func120, Tryz.ntmps120
    go_wp2_with (first
      | (go_at_fn k; refine hc'.mono ?_; rintro e w1 ⟨rfl, hP, hB⟩; have hcl := cell_one hB; have hfz := thaw_one hB))
    refine leaves_cons (f := 147) (args := #[.pointer (some ⟨w.heap.size, 0, none⟩)]) (by simp) (by simp [go_sem]) ?_
    refine (catchS_panicking ⟨w.heap.size, 0, none⟩ 0 n _ hcl hfz).mono ?_
    rintro e u' w2 ⟨rfl, rfl, rfl⟩
    simp [Leaves, settle, results, Tryz.results120, go_sem, hcl]
    exact ⟨w1, hP, rfl⟩

/-- The six variables of Act. -/
structure AB (w : World) (b : Nat) (h : Hf) (kind x : Int) (t : Hf) (ml nn : Int) : Prop where
  ah : HfAt w b h
  ak : w.heap[b + 1]? = some (.cells #[.int .i64 kind] 3 (0, 0))
  ax : w.heap[b + 2]? = some (.cells #[.int .u64 x] 33 (0, 0))
  at' : HfAt w (b + 3) t
  am : w.heap[b + 4]? = some (.cells #[.int .i64 ml] 3 (0, 0))
  an : w.heap[b + 5]? = some (.cells #[.int .u64 nn] 33 (0, 0))
theorem AB.below {w w' : World} {b : Nat} {h : Hf} {kind x : Int} {t : Hf} {ml nn : Int} (A : AB w b h kind x t ml nn) (hb : Below w.heap.size w w') : AB w' b h kind x t ml nn :=
  ⟨box_below A.ah hb, box_below A.ak hb, box_below A.ax hb, box_below A.at' hb, box_below A.am hb, box_below A.an hb⟩
/-- Three of them are written. -/
theorem AB.put {w : World} {b : Nat} {h : Hf} {kind x : Int} {t : Hf} {ml nn : Int} (A : AB w b h kind x t ml nn) (t' : Hf) (ml' nn' : Int) :
    AB (((w.setRow (b + 3) (hfc t')).setCell ⟨b + 4, 0, none⟩ (.int .i64 ml')).setCell ⟨b + 5, 0, none⟩ (.int .u64 nn')) b h kind x t' ml' nn' ∧
    Keep (fun j => b + 3 ≤ j ∧ j ≤ b + 5) w (((w.setRow (b + 3) (hfc t')).setCell ⟨b + 4, 0, none⟩ (.int .i64 ml')).setCell ⟨b + 5, 0, none⟩ (.int .u64 nn')) := by
  have k1 := A.at'.keepB t'
  have k2 : Keep (fun j => j = b + 4) (w.setRow (b + 3) (hfc t')) ((w.setRow (b + 3) (hfc t')).setCell ⟨b + 4, 0, none⟩ (.int .i64 ml')) := (Keep.refl (fun j => j = b + 4) _).setCell (p := ⟨b + 4, 0, none⟩) rfl _
  have k3 : Keep (fun j => j = b + 5) ((w.setRow (b + 3) (hfc t')).setCell ⟨b + 4, 0, none⟩ (.int .i64 ml')) (((w.setRow (b + 3) (hfc t')).setCell ⟨b + 4, 0, none⟩ (.int .i64 ml')).setCell ⟨b + 5, 0, none⟩ (.int .u64 nn')) := (Keep.refl (fun j => j = b + 5) _).setCell (p := ⟨b + 5, 0, none⟩) rfl _
  have go : ∀ {i : Nat} {o : Obj}, w.heap[i]? = some o → i ≠ b + 3 → i ≠ b + 4 → i ≠ b + 5 → (((w.setRow (b + 3) (hfc t')).setCell ⟨b + 4, 0, none⟩ (.int .i64 ml')).setCell ⟨b + 5, 0, none⟩ (.int .u64 nn')).heap[i]? = some o := fun hh h1 h2 h3 => box_keep (box_keep (box_keep hh k1 h1) k2 h2) k3 h3
  refine ⟨⟨go A.ah (by omega) (by omega) (by omega), go A.ak (by omega) (by omega) (by omega), go A.ax (by omega) (by omega) (by omega), box_keep (box_keep (A.at'.set t') k2 (by omega)) k3 (by omega), box_keep (heap_setCell_same _ (b + 4) 0 _ _ _ (box_keep A.am k1 (by omega))) k3 (by omega), heap_setCell_same _ (b + 5) 0 _ _ _ (box_keep (box_keep A.an k1 (by omega)) k2 (by omega))⟩, ?_⟩
  exact ((k1.mono (fun i e => by omega)).trans (k2.mono (fun i e => by omega))).trans (k3.mono (fun i e => by omega))

/-- What Act answers: the half, the mail, its number, the error's number. -/
def actA (h : Hf) (kind x : Int) : (Hf × Int × Int) × Nat := if okH h = true then (match actH h kind x with
  | some r => (r, 0)
  | none => ((⟨0, 0, 0, 0⟩, 0, 0), 1)) else ((⟨0, 0, 0, 0⟩, 0, 0), 1)

set_option maxHeartbeats 1600000 in
theorem actC_any (b : Nat) (h : Hf) (kind x : Int) (w : World) (A : AB w b h kind x ⟨0, 0, 0, 0⟩ 0 0) :
    Calls Tryz.prog 121 #[.pointer (some ⟨b, 0, none⟩), .pointer (some ⟨b + 1, 0, none⟩), .pointer (some ⟨b + 2, 0, none⟩), .pointer (some ⟨b + 3, 0, none⟩), .pointer (some ⟨b + 4, 0, none⟩), .pointer (some ⟨b + 5, 0, none⟩)] w fun e w' =>
      Gs (actA h kind x).2 e ∧ AB w' b h kind x (actA h kind x).1.1 (actA h kind x).1.2.1 (actA h kind x).1.2.2 ∧ Keep (fun j => b + 3 ≤ j ∧ j ≤ b + 5) w w' := by
  have c0 := A.ah.c0
  have c1 := A.ah.c1
  have c2 := A.ah.c2
  have c3 := A.ah.c3
  cases hk : okH h with
  | false =>
    have hw := fun w => checkH_no h w hk
    unfold hfv hfc at hw
    rw [show actA h kind x = ((⟨0, 0, 0, 0⟩, 0, 0), 1) from by unfold actA; rw [if_neg (by rw [hk]; decide)]]
    go_enter Tryz.func121, Tryz.ntmps121
    go_wp2_with (first
      | (go_at_call 122; refine (hw _).mono ?_; rintro e w1 ⟨rfl, hb1⟩))
    exact ⟨rfl, gs_no (by decide) rfl, A.below hb1, Keep.ofBelow hb1⟩
  | true =>
    have hw := fun w => checkH_ok h w hk
    unfold hfv hfc at hw
    have hx := fun w => act_any h kind x w
    cases ha : actH h kind x with
    | none =>
      rw [ha] at hx
      unfold hfv hfc at hx
      rw [show actA h kind x = ((⟨0, 0, 0, 0⟩, 0, 0), 1) from by unfold actA; rw [if_pos hk, ha]]
      have hx' : ∀ w, Calls Tryz.prog 123 #[.agg #[.int .i64 h.o, .int .u64 h.n, .int .i64 h.i, .int .u64 h.m], .int .i64 kind, .int .u64 x] w fun e w' => e = .panicked (gaveS 1) ∧ Below w.heap.size w w' := hx
      clear hx ha hk
      go_enter Tryz.func121, Tryz.ntmps121
      go_wp2_with (first
        | (go_at_call 122; refine (hw _).mono ?_; rintro e w1 ⟨rfl, hb1⟩; have A1 := A.below hb1; have d0 := A1.ah.c0; have d1 := A1.ah.c1; have d2 := A1.ah.c2; have d3 := A1.ah.c3; have d4 := cell_one A1.ak; have d5 := cell_one A1.ax)
        | (go_at_call 123; refine (hx' _).mono ?_; rintro e w2 ⟨rfl, hb2⟩))
      exact ⟨rfl, gs_no (by decide) rfl, A1.below hb2, (Keep.ofBelow hb1).trans (Keep.ofBelow hb2)⟩
    | some r =>
      rw [ha] at hx
      unfold hfv hfc at hx
      rw [show actA h kind x = (r, 0) from by unfold actA; rw [if_pos hk, ha]]
      have hx' : ∀ w, Calls Tryz.prog 123 #[.agg #[.int .i64 h.o, .int .u64 h.n, .int .i64 h.i, .int .u64 h.m], .int .i64 kind, .int .u64 x] w fun e w' => e = .returned (.tuple #[.agg #[.int .i64 r.1.o, .int .u64 r.1.n, .int .i64 r.1.i, .int .u64 r.1.m], .int .i64 r.2.1, .int .u64 r.2.2]) ∧ Below w.heap.size w w' := hx
      clear hx ha hk
      go_enter Tryz.func121, Tryz.ntmps121
      go_wp2_with (first
        | (go_at_call 122; refine (hw _).mono ?_; rintro e w1 ⟨rfl, hb1⟩; have A1 := A.below hb1; have d0 := A1.ah.c0; have d1 := A1.ah.c1; have d2 := A1.ah.c2; have d3 := A1.ah.c3; have d4 := cell_one A1.ak; have d5 := cell_one A1.ax)
        | (go_at_call 123; refine (hx' _).mono ?_; rintro e w2 ⟨rfl, hb2⟩; have A2 := A1.below hb2; have P2 := A2.put r.1 r.2.1 r.2.2; have e4 := box_keep A2.am (A2.at'.keepB r.1) (by omega); have e5 := box_keep (box_keep A2.an (A2.at'.keepB r.1) (by omega)) ((Keep.refl (fun j => j = b + 4) _).setCell (p := ⟨b + 4, 0, none⟩) rfl (.int .i64 r.2.1)) (by omega); have z4 := thaw_one e4; have z5 := thaw_one e5; have y4 := cell_one e4; have y5 := cell_one e5; clear e4 e5)
        | (refine wp_store_half rfl (.tmp 3) (.tmp 13) rfl (b + 3) rfl r.1 rfl _ A2.at' ?_))
      go_end0
      exact ⟨Or.inl ⟨rfl, rfl⟩, P2.1, ((Keep.ofBelow hb1).trans (Keep.ofBelow hb2)).trans P2.2⟩
end Go.Proofs.YtppdopcghnfapaaGreatDoor

/- subs.Act. -/
set_option maxRecDepth 100000
namespace Go.Proofs.YtppdopcghnfapaaGreatDoor
open Go.RowKit Go.Joins

section
variable {w w' : World} {b : Nat} {h : Hf} {kind x : Int} {t : Hf} {ml nn : Int}
theorem AB.keep {S : Nat → Prop} (A : AB w b h kind x t ml nn) (hk : Keep S w w') (hs : ∀ i, b ≤ i → i ≤ b + 5 → ¬ S i) : AB w' b h kind x t ml nn :=
  ⟨box_keep A.ah hk (hs _ (by omega) (by omega)), box_keep A.ak hk (hs _ (by omega) (by omega)), box_keep A.ax hk (hs _ (by omega) (by omega)), box_keep A.at' hk (hs _ (by omega) (by omega)), box_keep A.am hk (hs _ (by omega) (by omega)), box_keep A.an hk (hs _ (by omega) (by omega))⟩
theorem AB.lt (A : AB w b h kind x t ml nn) : b + 5 < w.heap.size := (Array.getElem?_eq_some_iff.1 A.an).1
theorem AB.put1 (A : AB w b h kind x t ml nn) : AB (w.setRow (b + 3) (hfc t)) b h kind x t ml nn :=
  ⟨box_keep A.ah (A.at'.keepB t) (by omega), box_keep A.ak (A.at'.keepB t) (by omega), box_keep A.ax (A.at'.keepB t) (by omega), A.at'.set t, box_keep A.am (A.at'.keepB t) (by omega), box_keep A.an (A.at'.keepB t) (by omega)⟩
theorem keepC (w : World) (b : Nat) (v : Value) : Keep (fun j => j = b) w (w.setCell ⟨b, 0, none⟩ v) := (Keep.refl (fun j => j = b) _).setCell (p := ⟨b, 0, none⟩) rfl _
theorem AB.put2 (A : AB w b h kind x t ml nn) : AB (w.setCell ⟨b + 4, 0, none⟩ (.int .i64 ml)) b h kind x t ml nn :=
  ⟨box_keep A.ah (keepC _ _ _) (by omega), box_keep A.ak (keepC _ _ _) (by omega), box_keep A.ax (keepC _ _ _) (by omega), box_keep A.at' (keepC _ _ _) (by omega), heap_setCell_same _ (b + 4) 0 _ _ _ A.am, box_keep A.an (keepC _ _ _) (by omega)⟩
theorem AB.put3 (A : AB w b h kind x t ml nn) : AB (w.setCell ⟨b + 5, 0, none⟩ (.int .u64 nn)) b h kind x t ml nn :=
  ⟨box_keep A.ah (keepC _ _ _) (by omega), box_keep A.ak (keepC _ _ _) (by omega), box_keep A.ax (keepC _ _ _) (by omega), box_keep A.at' (keepC _ _ _) (by omega), box_keep A.am (keepC _ _ _) (by omega), heap_setCell_same _ (b + 5) 0 _ _ _ A.an⟩
end
theorem attempt_act (b : Nat) (h : Hf) (kind x : Int) (w : World) (A : AB w b h kind x ⟨0, 0, 0, 0⟩ 0 0) :
    Calls Tryz.prog 120 #[.func (.func 121) #[] #[.pointer (some ⟨b, 0, none⟩), .pointer (some ⟨b + 1, 0, none⟩), .pointer (some ⟨b + 2, 0, none⟩), .pointer (some ⟨b + 3, 0, none⟩), .pointer (some ⟨b + 4, 0, none⟩), .pointer (some ⟨b + 5, 0, none⟩)]] w fun e w' =>
      e = .returned (.int .i64 (actA h kind x).2) ∧ AB w' b h kind x (actA h kind x).1.1 (actA h kind x).1.2.1 (actA h kind x).1.2.2 ∧ Keep (fun j => b + 3 ≤ j ∧ j ≤ b + 5) w w' := by
  have hl := A.lt
  have A1 := A.below (below1 w (.cells #[.int .i64 0] 24))
  refine (attemptS 121 _ (actA h kind x).2 (fun w' => AB w' b h kind x (actA h kind x).1.1 (actA h kind x).1.2.1 (actA h kind x).1.2.2 ∧ Keep (fun j => b + 3 ≤ j ∧ j ≤ b + 5) (w.alloc (.cells #[.int .i64 0] 24)) w') w (fun args w => by kernel_rfl) ((actC_any b h kind x _ A1).mono ?_)).mono ?_
  · rintro e w' ⟨hg, B, hk⟩
    exact ⟨hg, ⟨B, hk⟩, box_keep (alloc_at w _) hk (by omega)⟩
  · rintro e w' ⟨rfl, w1, ⟨B, hk⟩, rfl⟩
    refine ⟨rfl, B.keep (keepC w1 w.heap.size _) (fun i _ _ => by omega), ?_⟩
    exact (((Keep.refl _ w).alloc _).trans hk).setNew (p := ⟨w.heap.size, 0, none⟩) (Nat.le_refl _) _

/-- The world in which Act's six variables have been made. -/
def aw (w : World) (h : Hf) (kind x : Int) : World := (((((w.alloc (.cells (hfc h) 49)).alloc (.cells #[.int .i64 kind] 3)).alloc (.cells #[.int .u64 x] 33)).alloc (.cells (hfc ⟨0, 0, 0, 0⟩) 49)).alloc (.cells #[.int .i64 0] 3)).alloc (.cells #[.int .u64 0] 33)
theorem push_at (w : World) (o : Obj) {i : Nat} (hi : i = w.heap.size) : (w.alloc o).heap[i]? = some o := by subst hi; exact alloc_at w o
theorem push_old {w : World} {o p : Obj} {i : Nat} (h : w.heap[i]? = some p) : (w.alloc o).heap[i]? = some p := box_below h (below1 w o)
theorem aw_ab (w : World) (h : Hf) (kind x : Int) : AB (aw w h kind x) w.heap.size h kind x ⟨0, 0, 0, 0⟩ 0 0 ∧ Below w.heap.size w (aw w h kind x) := by
  unfold aw
  refine ⟨⟨?_, ?_, ?_, ?_, ?_, ?_⟩, ?_⟩
  · exact push_old (push_old (push_old (push_old (push_old (push_at _ _ (by simp))))))
  · exact push_old (push_old (push_old (push_old (push_at _ _ (by simp)))))
  · exact push_old (push_old (push_old (push_at _ _ (by simp))))
  · exact push_old (push_old (push_at _ _ (by simp)))
  · exact push_old (push_at _ _ (by simp))
  · exact push_at _ _ (by simp)
  · exact ((((((Below.refl _ _).alloc (Nat.le_refl _) _).alloc (by simp) _).alloc (by simp; omega) _).alloc (by simp; omega) _).alloc (by simp; omega) _).alloc (by simp; omega) _

def actV (r : (Hf × Int × Int) × Nat) : Value := .tuple #[hfv r.1.1, .int .i64 r.1.2.1, .int .u64 r.1.2.2, .int .i64 r.2]
set_option maxHeartbeats 1600000 in
theorem Act_any (h : Hf) (kind x : Int) (w : World) : Calls Tryz.prog 97 #[hfv h, .int .i64 kind, .int .u64 x] w fun e w' => e = .returned (actV (actA h kind x)) ∧ Below w.heap.size w w' := by
  obtain ⟨A, hb⟩ := aw_ab w h kind x
  have hc := attempt_act w.heap.size h kind x _ A
  generalize actA h kind x = r at hc ⊢
  obtain ⟨⟨t, ml, nn⟩, en⟩ := r
  have hc' : Calls Tryz.prog 120 _ _ fun e w' => e = .returned (.int .i64 en) ∧ AB w' w.heap.size h kind x t ml nn ∧ Keep (fun j => w.heap.size + 3 ≤ j ∧ j ≤ w.heap.size + 5) _ w' := hc
  clear hc A
  unfold actV hfv hfc
  unfold aw hfc at hc' hb
  go_enter Tryz.func97, Tryz.ntmps97
  go_upto_region 2 with (first
    | (go_at_call 120; refine hc'.mono ?_; rintro e w7 ⟨rfl, A7, k7⟩; have b7 : Below w.heap.size w w7 := hb.trans (k7.below hb.size (fun q hq => by omega)))
    | fail)
  refine wp_region_lx (fun w' => AB w' w.heap.size h kind x t ml nn) [] 8 (by kernel_rfl) (by kernel_rfl) ?_
  have HS : AB w7.drew w.heap.size h kind x t ml nn := A7.below ((Below.refl _ _).drew)
  have b8 := b7.drew
  clear A7 b7 k7 hc' hb
  generalize w7.drew = W at HS b8 ⊢
  refine lx_r 0 (.agg #[.int .i64 t.o, .int .u64 t.n, .int .i64 t.i, .int .u64 t.m]) HS ?_ (hv := fun w' hS => by have z0 := hS.at'.c0; have z1 := hS.at'.c1; have z2 := hS.at'.c2; have z3 := hS.at'.c3; first | (go_simp; rfl) | go_simp); simp only [lxa, lxb, lxc]
  refine lx_r 1 (.int .i64 ml) HS ?_ (hv := fun w' hS => by have z0 := cell_one hS.am; first | (go_simp; rfl) | go_simp); simp only [lxa, lxb, lxc]
  refine lx_r 2 (.int .u64 nn) HS ?_ (hv := fun w' hS => by have z0 := cell_one hS.an; first | (go_simp; rfl) | go_simp); simp only [lxa, lxb, lxc]
  refine lx_r 3 _ HS ?_; simp only [lxa, lxb, lxc]
  refine lx_one 4 (by kernel_rfl) (stepT_store (w' := W.setRow (w.heap.size + 3) (hfc t)) rfl rfl rfl ?d4 (fun _ => HS.put1) ?_)
  case d4 => exact exec_store_half (.tmp 6) (.tmp 12) rfl (w.heap.size + 3) rfl t rfl _ HS.at'
  have A1 := HS.put1
  have b9 := HS.at'.setB b8 (by omega) t
  clear HS b8
  generalize W.setRow (w.heap.size + 3) (hfc t) = W1 at A1 b9 ⊢
  refine lx_one 5 (by kernel_rfl) (stepT_store (w' := W1.setCell ⟨w.heap.size + 4, 0, none⟩ (.int .i64 ml)) rfl rfl rfl ?d5 (fun _ => A1.put2) ?_)
  case d5 => (have z0 := cell_one A1.am; have z1 := thaw_one A1.am; go_simp)
  have A2 := A1.put2
  have b10 : Below w.heap.size w (W1.setCell ⟨w.heap.size + 4, 0, none⟩ (.int .i64 ml)) := b9.trans ((keepC _ _ _).below b9.size (fun q hq => by omega))
  clear A1 b9
  generalize W1.setCell ⟨w.heap.size + 4, 0, none⟩ (.int .i64 ml) = W2 at A2 b10 ⊢
  refine lx_one 6 (by kernel_rfl) (stepT_store (w' := W2.setCell ⟨w.heap.size + 5, 0, none⟩ (.int .u64 nn)) rfl rfl rfl ?d6 (fun _ => A2.put3) ?_)
  case d6 => (have z0 := cell_one A2.an; have z1 := thaw_one A2.an; go_simp)
  have A3 := A2.put3
  have b11 : Below w.heap.size w (W2.setCell ⟨w.heap.size + 5, 0, none⟩ (.int .u64 nn)) := b10.trans ((keepC _ _ _).below b10.size (fun q hq => by omega))
  clear A2 b10
  generalize W2.setCell ⟨w.heap.size + 5, 0, none⟩ (.int .u64 nn) = W3 at A3 b11 ⊢
  refine lx_one 7 (by kernel_rfl) (stepT_val (w' := W3) (.int .i64 en) rfl rfl rfl ?d7 (fun _ => A3) ?_)
  case d7 => first | (go_simp; done) | (go_simp; rfl)
  simp only [List.setIfInBounds_toArray, List.set_cons_zero, List.set_cons_succ]
  refine lx_nil (by kernel_rfl) ?_
  go_wp2
  simp [bodyPost, results, Tryz.results97, go_sem, A3.at'.c0, A3.at'.c1, A3.at'.c2, A3.at'.c3, cell_one A3.am, cell_one A3.an]
  exact b11
end Go.Proofs.YtppdopcghnfapaaGreatDoor

/- subs.Hear. -/
set_option maxRecDepth 100000
namespace Go.Proofs.YtppdopcghnfapaaGreatDoor
open Go.RowKit Go.Joins

/-- The five variables of Hear. -/
structure HB (w : World) (b : Nat) (h : Hf) (mail x : Int) (t : Hf) (tl : Int) : Prop where
  ah : HfAt w b h
  ak : w.heap[b + 1]? = some (.cells #[.int .i64 mail] 3 (0, 0))
  ax : w.heap[b + 2]? = some (.cells #[.int .u64 x] 33 (0, 0))
  at' : HfAt w (b + 3) t
  am : w.heap[b + 4]? = some (.cells #[.int .i64 tl] 3 (0, 0))
section
variable {w w' : World} {b : Nat} {h : Hf} {mail x : Int} {t : Hf} {tl : Int}
theorem HB.keep {S : Nat → Prop} (A : HB w b h mail x t tl) (hk : Keep S w w') (hs : ∀ i, b ≤ i → i ≤ b + 4 → ¬ S i) : HB w' b h mail x t tl :=
  ⟨box_keep A.ah hk (hs _ (by omega) (by omega)), box_keep A.ak hk (hs _ (by omega) (by omega)), box_keep A.ax hk (hs _ (by omega) (by omega)), box_keep A.at' hk (hs _ (by omega) (by omega)), box_keep A.am hk (hs _ (by omega) (by omega))⟩
theorem HB.below (A : HB w b h mail x t tl) (hb : Below w.heap.size w w') : HB w' b h mail x t tl :=
  ⟨box_below A.ah hb, box_below A.ak hb, box_below A.ax hb, box_below A.at' hb, box_below A.am hb⟩
theorem HB.lt (A : HB w b h mail x t tl) : b + 4 < w.heap.size := (Array.getElem?_eq_some_iff.1 A.am).1
theorem HB.put1 (A : HB w b h mail x t tl) (t' : Hf) : HB (w.setRow (b + 3) (hfc t')) b h mail x t' tl :=
  ⟨box_keep A.ah (A.at'.keepB t') (by omega), box_keep A.ak (A.at'.keepB t') (by omega), box_keep A.ax (A.at'.keepB t') (by omega), A.at'.set t', box_keep A.am (A.at'.keepB t') (by omega)⟩
theorem HB.put2 (A : HB w b h mail x t tl) (tl' : Int) : HB (w.setCell ⟨b + 4, 0, none⟩ (.int .i64 tl')) b h mail x t tl' :=
  ⟨box_keep A.ah (keepC _ _ _) (by omega), box_keep A.ak (keepC _ _ _) (by omega), box_keep A.ax (keepC _ _ _) (by omega), box_keep A.at' (keepC _ _ _) (by omega), heap_setCell_same _ (b + 4) 0 _ _ _ A.am⟩
theorem HB.keepP (A : HB w b h mail x t tl) (t' : Hf) (tl' : Int) : Keep (fun j => b + 3 ≤ j ∧ j ≤ b + 4) w ((w.setRow (b + 3) (hfc t')).setCell ⟨b + 4, 0, none⟩ (.int .i64 tl')) :=
  ((A.at'.keepB t').mono (fun i e => by omega)).trans ((keepC _ _ _).mono (fun i e => by omega))
end
/-- What Hear answers: the half, what is told, the error's number. -/
def hearA (h : Hf) (mail x : Int) : (Hf × Int) × Nat := if okH h = true then (if x = 0 then ((⟨0, 0, 0, 0⟩, 0), 1) else match hearH h mail x with
  | some r => (r, 0)
  | none => ((⟨0, 0, 0, 0⟩, 0), 1)) else ((⟨0, 0, 0, 0⟩, 0), 1)

set_option maxHeartbeats 1600000 in
theorem hearC_any (b : Nat) (h : Hf) (mail x : Int) (w : World) (A : HB w b h mail x ⟨0, 0, 0, 0⟩ 0) :
    Calls Tryz.prog 124 #[.pointer (some ⟨b, 0, none⟩), .pointer (some ⟨b + 2, 0, none⟩), .pointer (some ⟨b + 1, 0, none⟩), .pointer (some ⟨b + 3, 0, none⟩), .pointer (some ⟨b + 4, 0, none⟩)] w fun e w' =>
      Gs (hearA h mail x).2 e ∧ HB w' b h mail x (hearA h mail x).1.1 (hearA h mail x).1.2 ∧ Keep (fun j => b + 3 ≤ j ∧ j ≤ b + 4) w w' := by
  have c0 := A.ah.c0
  have c1 := A.ah.c1
  have c2 := A.ah.c2
  have c3 := A.ah.c3
  cases hk : okH h with
  | false =>
    have hw := fun w => checkH_no h w hk
    unfold hfv hfc at hw
    rw [show hearA h mail x = ((⟨0, 0, 0, 0⟩, 0), 1) from by unfold hearA; rw [if_neg (by rw [hk]; decide)]]
    go_enter Tryz.func124, Tryz.ntmps124
    go_wp2_with (first
      | (go_at_call 122; refine (hw _).mono ?_; rintro e w1 ⟨rfl, hb1⟩))
    exact ⟨rfl, gs_no (by decide) rfl, A.below hb1, Keep.ofBelow hb1⟩
  | true =>
    have hw := fun w => checkH_ok h w hk
    unfold hfv hfc at hw
    by_cases x0 : x = 0
    · rw [show hearA h mail x = ((⟨0, 0, 0, 0⟩, 0), 1) from by unfold hearA; rw [if_pos hk, if_pos x0]]
      subst x0
      go_enter Tryz.func124, Tryz.ntmps124
      go_wp2_with (first
        | (go_at_call 122; refine (hw _).mono ?_; rintro e w1 ⟨rfl, hb1⟩; have A1 := A.below hb1; have d5 := cell_one A1.ax)
        | (go_at_call 125; refine (demand_no _).mono ?_; rintro e w2 ⟨rfl, rfl⟩))
      exact ⟨rfl, gs_no (by decide) rfl, A.below hb1, Keep.ofBelow hb1⟩
    have hx0 : (x != 0) = true := by simp [x0]
    have hx := fun w => hear_any h mail x w
    cases ha : hearH h mail x with
    | none =>
      rw [ha] at hx
      unfold hfv hfc at hx
      rw [show hearA h mail x = ((⟨0, 0, 0, 0⟩, 0), 1) from by unfold hearA; rw [if_pos hk, if_neg x0, ha]]
      have hx' : ∀ w, Calls Tryz.prog 126 #[.agg #[.int .i64 h.o, .int .u64 h.n, .int .i64 h.i, .int .u64 h.m], .int .i64 mail, .int .u64 x] w fun e w' => e = .panicked (gaveS 1) ∧ Below w.heap.size w w' := hx
      clear hx ha hk
      go_enter Tryz.func124, Tryz.ntmps124
      go_wp2_with (first
        | (go_at_call 122; refine (hw _).mono ?_; rintro e w1 ⟨rfl, hb1⟩; have A1 := A.below hb1; have d0 := A1.ah.c0; have d1 := A1.ah.c1; have d2 := A1.ah.c2; have d3 := A1.ah.c3; have d4 := cell_one A1.ak; have d5 := cell_one A1.ax)
        | (go_at_call 125; refine (demand_ok _).mono ?_; rintro e w1x ⟨rfl, rfl⟩)
        | (go_at_call 126; refine (hx' _).mono ?_; rintro e w2 ⟨rfl, hb2⟩))
      exact ⟨rfl, gs_no (by decide) rfl, A1.below hb2, (Keep.ofBelow hb1).trans (Keep.ofBelow hb2)⟩
    | some r =>
      rw [ha] at hx
      unfold hfv hfc at hx
      rw [show hearA h mail x = (r, 0) from by unfold hearA; rw [if_pos hk, if_neg x0, ha]]
      have hx' : ∀ w, Calls Tryz.prog 126 #[.agg #[.int .i64 h.o, .int .u64 h.n, .int .i64 h.i, .int .u64 h.m], .int .i64 mail, .int .u64 x] w fun e w' => e = .returned (.tuple #[.agg #[.int .i64 r.1.o, .int .u64 r.1.n, .int .i64 r.1.i, .int .u64 r.1.m], .int .i64 r.2]) ∧ Below w.heap.size w w' := hx
      clear hx ha hk
      go_enter Tryz.func124, Tryz.ntmps124
      go_wp2_with (first
        | (go_at_call 122; refine (hw _).mono ?_; rintro e w1 ⟨rfl, hb1⟩; have A1 := A.below hb1; have d0 := A1.ah.c0; have d1 := A1.ah.c1; have d2 := A1.ah.c2; have d3 := A1.ah.c3; have d4 := cell_one A1.ak; have d5 := cell_one A1.ax)
        | (go_at_call 125; refine (demand_ok _).mono ?_; rintro e w1x ⟨rfl, rfl⟩)
        | (go_at_call 126; refine (hx' _).mono ?_; rintro e w2 ⟨rfl, hb2⟩; have A2 := A1.below hb2; have A3 := A2.put1 r.1; have P2 := A3.put2 r.2; have k2 := A2.keepP r.1 r.2; have z4 := thaw_one A3.am; have y4 := cell_one A3.am)
        | (refine wp_store_half rfl (.tmp 3) (.tmp 15) rfl (b + 3) rfl r.1 rfl _ A2.at' ?_))
      go_end0
      exact ⟨Or.inl ⟨rfl, rfl⟩, P2, ((Keep.ofBelow hb1).trans (Keep.ofBelow hb2)).trans k2⟩

theorem attempt_hear (b : Nat) (h : Hf) (mail x : Int) (w : World) (A : HB w b h mail x ⟨0, 0, 0, 0⟩ 0) :
    Calls Tryz.prog 120 #[.func (.func 124) #[] #[.pointer (some ⟨b, 0, none⟩), .pointer (some ⟨b + 2, 0, none⟩), .pointer (some ⟨b + 1, 0, none⟩), .pointer (some ⟨b + 3, 0, none⟩), .pointer (some ⟨b + 4, 0, none⟩)]] w fun e w' =>
      e = .returned (.int .i64 (hearA h mail x).2) ∧ HB w' b h mail x (hearA h mail x).1.1 (hearA h mail x).1.2 ∧ Keep (fun j => b + 3 ≤ j ∧ j ≤ b + 4) w w' := by
  have hl := A.lt
  have A1 := A.below (below1 w (.cells #[.int .i64 0] 24))
  refine (attemptS 124 _ (hearA h mail x).2 (fun w' => HB w' b h mail x (hearA h mail x).1.1 (hearA h mail x).1.2 ∧ Keep (fun j => b + 3 ≤ j ∧ j ≤ b + 4) (w.alloc (.cells #[.int .i64 0] 24)) w') w (fun args w => by kernel_rfl) ((hearC_any b h mail x _ A1).mono ?_)).mono ?_
  · rintro e w' ⟨hg, B, hk⟩
    exact ⟨hg, ⟨B, hk⟩, box_keep (alloc_at w _) hk (by omega)⟩
  · rintro e w' ⟨rfl, w1, ⟨B, hk⟩, rfl⟩
    refine ⟨rfl, B.keep (keepC w1 w.heap.size _) (fun i _ _ => by omega), ?_⟩
    exact (((Keep.refl _ w).alloc _).trans hk).setNew (p := ⟨w.heap.size, 0, none⟩) (Nat.le_refl _) _

def hw5 (w : World) (h : Hf) (mail x : Int) : World := ((((w.alloc (.cells (hfc h) 49)).alloc (.cells #[.int .i64 mail] 3)).alloc (.cells #[.int .u64 x] 33)).alloc (.cells (hfc ⟨0, 0, 0, 0⟩) 49)).alloc (.cells #[.int .i64 0] 3)
theorem hw5_ab (w : World) (h : Hf) (mail x : Int) : HB (hw5 w h mail x) w.heap.size h mail x ⟨0, 0, 0, 0⟩ 0 ∧ Below w.heap.size w (hw5 w h mail x) := by
  unfold hw5
  refine ⟨⟨?_, ?_, ?_, ?_, ?_⟩, ?_⟩
  · exact push_old (push_old (push_old (push_old (push_at _ _ (by simp)))))
  · exact push_old (push_old (push_old (push_at _ _ (by simp))))
  · exact push_old (push_old (push_at _ _ (by simp)))
  · exact push_old (push_at _ _ (by simp))
  · exact push_at _ _ (by simp)
  · exact (((((Below.refl _ _).alloc (Nat.le_refl _) _).alloc (by simp) _).alloc (by simp; omega) _).alloc (by simp; omega) _).alloc (by simp; omega) _

def hearV (r : (Hf × Int) × Nat) : Value := .tuple #[hfv r.1.1, .int .i64 r.1.2, .int .i64 r.2]
set_option maxHeartbeats 1600000 in
theorem Hear_any (h : Hf) (mail x : Int) (w : World) : Calls Tryz.prog 100 #[hfv h, .int .i64 mail, .int .u64 x] w fun e w' => e = .returned (hearV (hearA h mail x)) ∧ Below w.heap.size w w' := by
  obtain ⟨A, hb⟩ := hw5_ab w h mail x
  have hc := attempt_hear w.heap.size h mail x _ A
  generalize hearA h mail x = r at hc ⊢
  obtain ⟨⟨t, tl⟩, en⟩ := r
  have hc' : Calls Tryz.prog 120 _ _ fun e w' => e = .returned (.int .i64 en) ∧ HB w' w.heap.size h mail x t tl ∧ Keep (fun j => w.heap.size + 3 ≤ j ∧ j ≤ w.heap.size + 4) _ w' := hc
  clear hc A
  unfold hearV hfv hfc
  unfold hw5 hfc at hc' hb
  go_enter Tryz.func100, Tryz.ntmps100
  go_upto_region 2 with (first
    | (go_at_call 120; refine hc'.mono ?_; rintro e w7 ⟨rfl, A7, k7⟩; have b7 : Below w.heap.size w w7 := hb.trans (k7.below hb.size (fun q hq => by omega)))
    | fail)
  refine wp_region_lx (fun w' => HB w' w.heap.size h mail x t tl) [] 6 (by kernel_rfl) (by kernel_rfl) ?_
  have HS : HB w7.drew w.heap.size h mail x t tl := A7.below ((Below.refl _ _).drew)
  have b8 := b7.drew
  clear A7 b7 k7 hc' hb
  generalize w7.drew = W at HS b8 ⊢
  refine lx_r 0 (.agg #[.int .i64 t.o, .int .u64 t.n, .int .i64 t.i, .int .u64 t.m]) HS ?_ (hv := fun w' hS => by have z0 := hS.at'.c0; have z1 := hS.at'.c1; have z2 := hS.at'.c2; have z3 := hS.at'.c3; first | (go_simp; rfl) | go_simp); simp only [lxa, lxb, lxc]
  refine lx_r 1 (.int .i64 tl) HS ?_ (hv := fun w' hS => by have z0 := cell_one hS.am; first | (go_simp; rfl) | go_simp); simp only [lxa, lxb, lxc]
  refine lx_r 2 _ HS ?_; simp only [lxa, lxb, lxc]
  refine lx_one 3 (by kernel_rfl) (stepT_store (w' := W.setRow (w.heap.size + 3) (hfc t)) rfl rfl rfl ?d4 (fun _ => HS.put1 t) ?_)
  case d4 => exact exec_store_half (.tmp 6) (.tmp 11) rfl (w.heap.size + 3) rfl t rfl _ HS.at'
  have A1 := HS.put1 t
  have b9 := HS.at'.setB b8 (by omega) t
  clear HS b8
  generalize W.setRow (w.heap.size + 3) (hfc t) = W1 at A1 b9 ⊢
  refine lx_one 4 (by kernel_rfl) (stepT_store (w' := W1.setCell ⟨w.heap.size + 4, 0, none⟩ (.int .i64 tl)) rfl rfl rfl ?d5 (fun _ => A1.put2 tl) ?_)
  case d5 => (have z0 := cell_one A1.am; have z1 := thaw_one A1.am; go_simp)
  have A3 := A1.put2 tl
  have b11 : Below w.heap.size w (W1.setCell ⟨w.heap.size + 4, 0, none⟩ (.int .i64 tl)) := b9.trans ((keepC _ _ _).below b9.size (fun q hq => by omega))
  clear A1 b9
  generalize W1.setCell ⟨w.heap.size + 4, 0, none⟩ (.int .i64 tl) = W3 at A3 b11 ⊢
  refine lx_one 5 (by kernel_rfl) (stepT_val (w' := W3) (.int .i64 en) rfl rfl rfl ?d7 (fun _ => A3) ?_)
  case d7 => first | (go_simp; done) | (go_simp; rfl)
  simp only [List.setIfInBounds_toArray, List.set_cons_zero, List.set_cons_succ]
  refine lx_nil (by kernel_rfl) ?_
  go_wp2
  simp [bodyPost, results, Tryz.results100, go_sem, A3.at'.c0, A3.at'.c1, A3.at'.c2, A3.at'.c3, cell_one A3.am]
  exact b11
end Go.Proofs.YtppdopcghnfapaaGreatDoor
