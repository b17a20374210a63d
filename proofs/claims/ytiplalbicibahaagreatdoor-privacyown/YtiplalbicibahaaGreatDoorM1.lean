/- Texts of one seat, one behind the other: NmLaid, Bytes, OwnA, Ext, Late, NmDef, NmSmall, NmTake, Shelf, NmBuild, NmEach, NmPrep, NmBegun, NmFun, NmCut, PvA. -/
import Derived.Test.YtiplalbicibahaaGreatDoorRows
import Derived.Shelf.Unicode.ValidAny
import Derived.ProofKit
import Derived.OpenShut
import Derived.Deep.DeepHandedRow
import Derived.Lib.LaidTab
import Derived.Test.YtiplalbicibahaaGreatDoorProg
import Derived.WalkKit
import Derived.WalkLawsBesides
import Derived.WalkSpells
import Derived.Laws.AppendOwnNone
import Derived.Deep.CutRange
import Derived.Deep.QuietTactic
import Derived.BigQuiet
import Derived.RangeFuncBox
import Derived.OrdersHeld
import Derived.Below
import Derived.Lib.MapLaws
import Derived.Lib.ValidLaws
import Derived.Lib.Bytealg
import Derived.Shelf.Abstract
import Derived.Shelf.Strings.BuilderRune
import Derived.Shelf.Strings.Search1
import Derived.Shelf.Strconv.Clone
import Derived.BigCall
import Derived.Defers
import Derived.Recover
import Derived.Laws.Pointers
import Derived.BigRegion
import Derived.Lib.SmallJoins
import Derived.Deep.MidRow
/- What the rows' list gives: Go's two tables of UTF-8, cell for cell. -/
namespace Go.Proofs.YtiplalbicibahaaGreatDoor.Nm
open Go.ChangeShapes Go.WideShapes Go.ChangeAt Go.RowKit

theorem gFirst : Tryz.prog.globalNamed "unicode/utf8.first" = some 0 := by kernel_rfl
theorem gAcc : Tryz.prog.globalNamed "unicode/utf8.acceptRanges" = some 1 := by kernel_rfl
theorem gFirstType : (Tryz.prog.globals[0]?).map (·.type) = some 105 := by kernel_rfl
theorem gAccType : (Tryz.prog.globals[1]?).map (·.type) = some 108 := by kernel_rfl
theorem cellsFirst : Tryz.prog.cellsOf 105 = 256 := by kernel_rfl
theorem cellsAcc : Tryz.prog.cellsOf 107 = 2 := by kernel_rfl
theorem cellsByte1 : Tryz.prog.cellsOf 5 = 1 := by kernel_rfl

def firstTab : List Int := Go.Pinned.utf8FirstZ.map fun (n : Nat) => (n : Int)
theorem first_eq : Rows.laid_unicode_utf8_first = Lib.tabData .u8 firstTab := by
  simp only [Rows.laid_unicode_utf8_first, Go.Pinned.utf8First, Go.Pinned.numbers, Lib.tabData, firstTab, List.map_map]
  rfl
theorem first_len : firstTab.length = 256 := by decide +kernel
theorem first_at : ∀ c : Nat, c < 256 → firstTab.getD c 0 = ((Lib.firstT c : Nat) : Int) := by decide +kernel

def accTab : List (Int × Int) := [(128, 191), (160, 191), (128, 159), (144, 191), (128, 143), (0, 0), (0, 0), (0, 0), (0, 0), (0, 0), (0, 0), (0, 0), (0, 0), (0, 0), (0, 0), (0, 0)]
theorem acc_eq : (Rows.laid_unicode_utf8_acceptRanges : DataW Unit) = .agg (accTab.map fun x => .agg [.lit (.int .u8 x.1), .lit (.int .u8 x.2)]) := rfl
theorem acc_at : ∀ i : Nat, i < 16 → (accTab.getD i (0, 0)) = (((Lib.accLo i : Nat) : Int), ((Lib.accHi i : Nat) : Int)) := by decide +kernel

theorem tabs_of {W : World} (h : laidMetH Tryz.prog [("unicode/utf8.acceptRanges", Rows.laid_unicode_utf8_acceptRanges), ("unicode/utf8.first", Rows.laid_unicode_utf8_first)] W) : Lib.Utf8Tabs 0 1 W := by
  have h' : laidMet Tryz.prog [("unicode/utf8.acceptRanges", Rows.laid_unicode_utf8_acceptRanges), ("unicode/utf8.first", Rows.laid_unicode_utf8_first)] W := h
  obtain ⟨ps, ⟨g1, t1, cs1, fuel1, p1, q1, hg1, ht1, hv1, hd1, hr1, _⟩, _⟩ := h'
  obtain rfl := Option.some.inj (gAcc.symm.trans hg1)
  obtain rfl := Option.some.inj (gAccType.symm.trans ht1)
  obtain ⟨g2, t2, cs2, fuel2, p2, q2, hg2, ht2, hv2, hd2, _, _⟩ := hr1
  obtain rfl := Option.some.inj (gFirst.symm.trans hg2)
  obtain rfl := Option.some.inj (gFirstType.symm.trans ht2)
  rw [first_eq] at hd2
  have hc2 := Lib.cells_of_tab Tryz.underlying105 Tryz.underlying5 cellsByte1 cellsFirst hd2
  rw [acc_eq] at hd1
  obtain ⟨ys, m, _, hx, _, hlen, hel⟩ := DataW.trod_array Tryz.underlying108 hd1
  have hxs : ys.map (·.1) = accTab.map fun x => (DataW.agg [.lit (.int .u8 x.1), .lit (.int .u8 x.2)] : DataW Unit) := by
    have := congrArg Prod.fst hx
    simpa using this.symm
  have hat : ∀ i, i < 16 → cs1.toList[i * 2]? = some (.int .u8 ((Lib.accLo i : Nat) : Int)) ∧ cs1.toList[i * 2 + 1]? = some (.int .u8 ((Lib.accHi i : Nat) : Int)) := by
    intro i hi
    have h1 := hel i hi
    rw [cellsAcc] at h1
    have hil : i < ys.length := by omega
    rw [List.getElem?_eq_getElem hil] at h1
    obtain ⟨y0, y1, k, hy, _, f0, f1⟩ := trod_struct2 Tryz.underlying107 h1
    simp only [cellsByte1, List.drop_zero] at f0 f1
    obtain ⟨z0, e0, e0', _⟩ := DataW.trod_int Tryz.underlying5 f0
    obtain ⟨z1, e1, e1', _⟩ := DataW.trod_int Tryz.underlying5 f1
    have h2 : (ys.map (·.1))[i]? = some (DataW.agg [.lit (.int .u8 z0), .lit (.int .u8 z1)] : DataW Unit) := by
      rw [List.getElem?_map, List.getElem?_eq_getElem hil, hy, e0', e1']; rfl
    rw [hxs, List.getElem?_map] at h2
    have h3 : accTab[i]? = some (accTab.getD i (0, 0)) := by
      have : i < accTab.length := hi
      rw [List.getD, List.getElem?_eq_getElem this]; rfl
    rw [h3, acc_at i hi] at h2
    simp only [Option.map_some, Option.some.injEq, DataW.agg.injEq, List.cons.injEq, DataW.lit.injEq, Lit.int.injEq, true_and, and_true] at h2
    rw [h2.1, h2.2]
    constructor
    · have := congrArg (·[0]?) e0
      simpa [List.getElem?_take, List.getElem?_drop] using this
    · have := congrArg (·[0]?) e1
      simpa [List.getElem?_take, List.getElem?_drop] using this
  refine ⟨fun c hc => ?_, fun i hi => ⟨?_, ?_⟩⟩
  · rw [World.var?_cell gFirst hv2 c, ← Array.getElem?_toList, hc2, List.getElem?_map]
    have hlen : c < firstTab.length := by rw [first_len]; exact hc
    rw [List.getElem?_eq_getElem hlen]
    have := first_at c hc
    simp [List.getD, List.getElem?_eq_getElem hlen] at this
    simp [this]
  · rw [World.var?_cell gAcc hv1, ← Array.getElem?_toList, Nat.mul_comm]
    exact (hat i hi).1
  · rw [World.var?_cell gAcc hv1, ← Array.getElem?_toList, Nat.mul_comm]
    exact (hat i hi).2

end Go.Proofs.YtiplalbicibahaaGreatDoor.Nm

/- Slices of bytes, as lists of numbers: what a slice reads as, how that lasts, and the forms of numbers as lists. -/
namespace Go.Proofs.YtiplalbicibahaaGreatDoor
open Go.RowKit

theorem Tryz.info5 : (Tryz.prog.info? 5).map (fun i => (i.zero, i.size, i.bytes)) = some (some (.int .u8 0), 1, 1) := by kernel_rfl

def Bd (xs : List Int) : Prop := ∀ x ∈ xs, 0 ≤ x ∧ x ≤ 255

/-- The cells of some bytes. -/
def bc (xs : List Int) : List Value := xs.map (Value.int .u8)

theorem bc_len (xs : List Int) : (bc xs).length = xs.length := by simp [bc]
theorem bc_append (xs ys : List Int) : bc (xs ++ ys) = bc xs ++ bc ys := by simp [bc]
theorem bc_one (xs : List Int) : ∀ u ∈ bc xs, u.oneCell' = true := by
  intro u hu; simp [bc] at hu; obtain ⟨x, _, rfl⟩ := hu; rfl

theorem Bd.append {xs ys : List Int} (h : Bd xs) (k : Bd ys) : Bd (xs ++ ys) := by
  intro x hx; rcases List.mem_append.1 hx with g | g
  · exact h x g
  · exact k x g
theorem Bd.nil : Bd [] := by intro x hx; cases hx
theorem Bd.take {xs : List Int} (h : Bd xs) (n : Nat) : Bd (xs.take n) := fun x hx => h x (List.mem_of_mem_take hx)
theorem Bd.drop {xs : List Int} (h : Bd xs) (n : Nat) : Bd (xs.drop n) := fun x hx => h x (List.mem_of_mem_drop hx)
theorem Bd.get {xs : List Int} (h : Bd xs) (j : Nat) : 0 ≤ xs.getD j 0 ∧ xs.getD j 0 ≤ 255 := by
  by_cases hj : j < xs.length
  · have e : xs.getD j 0 = xs[j] := by simp [List.getD, List.getElem?_eq_getElem hj]
    rw [e]; exact h _ (List.getElem_mem hj)
  · have e : xs.getD j 0 = 0 := by simp [List.getD, List.getElem?_eq_none (by omega : xs.length ≤ j)]
    rw [e]; omega

/-- What a slice of bytes reads as. -/
structure Rd (w : World) (a : Option Addr) (n c : Nat) (xs : List Int) : Prop where
  len : xs.length = n
  cap : n ≤ c
  most : c ≤ maxLen
  nil : a = none → c = 0
  bytes : Bd xs
  cells : ∀ ad, a = some ad → ∀ j, j < n → w.cell? (ad.add j) = some (.int .u8 (xs.getD j 0))

theorem Rd.carry {w w' : World} {a : Option Addr} {n c : Nat} {xs : List Int} (h : Rd w a n c xs) {B : Nat} (hB : w.heap.size ≤ B) (hb : Below B w w') : Rd w' a n c xs :=
  ⟨h.len, h.cap, h.most, h.nil, h.bytes, fun ad ha j hj => by
    have hc := h.cells ad ha j hj
    rw [hb.cell (Nat.lt_of_lt_of_le (World.block_lt_of_cell? w _ hc) hB)]; exact hc⟩

theorem Rd.news {w : World} {a : Option Addr} {n c : Nat} {xs : List Int} (h : Rd w a n c xs) {ad : Addr} (ha : a = some ad) : ∀ j u, (bc xs)[j]? = some u → w.cell? (ad.add j) = some u := by
  intro j u hj
  have hjl : j < xs.length := by
    rcases Nat.lt_or_ge j xs.length with g | g
    · exact g
    · rw [List.getElem?_eq_none (by simpa [bc] using g)] at hj; cases hj
  rw [h.cells ad ha j (by rw [← h.len]; exact hjl)]
  simp [bc, List.getElem?_eq_getElem hjl] at hj
  simp [List.getD, List.getElem?_eq_getElem hjl, hj]

theorem Rd.ofOwn {w : World} {base : Nat} {v : Value} {n : Nat} {xs : List Int} (h : w.ownsRow base 5 1 v n (bc xs)) (hb : Bd xs) : ∃ a c, v = .slice a n c ∧ Rd w a n c xs := by
  have hl : xs.length = n := by have := h.1; simpa [bc_len] using this
  rcases h.2 with ⟨hv, hn⟩ | ⟨g, cap, cur, hv, hg, hh, hnc, hm, hs, ht⟩
  · subst hv; subst hn
    exact ⟨none, 0, rfl, hl, Nat.le_refl _, by unfold maxLen; omega, fun _ => rfl, hb, fun ad ha => by cases ha⟩
  · subst hv
    refine ⟨some ⟨g, 0, none⟩, cap, rfl, hl, hnc, hm, (fun ha => by cases ha), hb, fun ad ha j hj => ?_⟩
    have hcell := h.cells (g := g) rfl j (.int .u8 (xs.getD j 0)) (by
      have : j < xs.length := by omega
      simp [bc, List.getD, List.getElem?_eq_getElem this])
    cases ha
    exact hcell

/-- 'string(b)'. -/
theorem Rd.string {w : World} {a : Option Addr} {n c : Nat} {xs : List Int} (h : Rd w a n c xs) : (convert 96 9 (.slice a n c)).run Tryz.prog w = .ok (.string (strOfNums xs)) w := by
  cases a with
  | none =>
    have hc := h.nil rfl
    have hn := h.cap
    have hx : xs = [] := List.eq_nil_of_length_eq_zero (by rw [h.len]; omega)
    subst hx
    rw [run_convert_bytes_nil w 96 5 Tryz.underlying96 Tryz.underlying5 n c 9 Tryz.underlying9]
    rfl
  | some ad =>
    have hl : (loadCells ad n).run Tryz.prog w = .ok (xs.map (Value.int .u8)).toArray w := by
      have := run_loadCells_list (P := Tryz.prog) w ad (xs.map (Value.int .u8)) (h.news rfl)
      simpa [h.len] using this
    rw [run_convert_bytes_string w 96 9 5 _ n c Tryz.underlying96 Tryz.underlying5 Tryz.underlying9, run_bytesToString w _ n c xs hl, foldl_push_bytes]
    simp [strOfNums, ByteArray.empty, ByteArray.emptyWithCapacity]
    rfl

theorem str_inj {xs ys : List Int} (hx : Bd xs) (hy : Bd ys) (h : strOfNums xs = strOfNums ys) : xs = ys := by
  have h1 : xs.map (fun n => UInt8.ofNat n.toNat) = ys.map (fun n => UInt8.ofNat n.toNat) := by
    have := congrArg (fun b => b.data.toList) h
    simpa [strOfNums] using this
  have key : ∀ zs : List Int, Bd zs → (zs.map (fun n => UInt8.ofNat n.toNat)).map (fun c => (c.toNat : Int)) = zs := by
    intro zs hz
    rw [List.map_map]
    conv => rhs; rw [← List.map_id zs]
    refine List.map_congr_left fun x hx => ?_
    have := hz x hx
    simp only [Function.comp, id]
    rw [UInt8.toNat_ofNat']
    omega
  rw [← key xs hx, ← key ys hy, h1]

theorem str_append (xs ys : List Int) : strOfNums xs ++ strOfNums ys = strOfNums (xs ++ ys) := by
  apply ByteArray.ext
  simp [strOfNums]

theorem own_snoc {w : World} {B : Nat} {v : Value} {pre : List Int} {x : Int} (h : w.ownsRow B 5 1 v (pre.length + 1) (bc pre ++ [.int .u8 x])) : w.ownsRow B 5 1 v (pre ++ [x]).length (bc (pre ++ [x])) := by
  simpa [bc] using h

theorem below_step {B : Nat} {w wr w1 : World} {o : Obj} {v : Value} {n : Nat} {xs : List Value} (hbel : Below B w wr) (hB : B ≤ wr.heap.size) (hown : wr.ownsRow B 5 1 v n xs) (hg : (wr.alloc o).grownBy w1 v.ownBlock) : Below B w w1 :=
  (hbel.alloc hB o).grown hg (by simp; omega) (fun k hk => (hown.lt k hk).1)

theorem add_flat (b off j : Nat) : (⟨b, off, none⟩ : Addr).add j = ⟨b, off + j, none⟩ := by unfold Addr.add; split <;> simp_all

theorem Rd.flat {w : World} {a : Option Addr} {n c : Nat} {xs : List Int} (h : Rd w a n c xs) (hn : 0 < n) : ∃ b off, a = some ⟨b, off, none⟩ ∧ ∀ j, j < n → w.cell? ⟨b, off + j, none⟩ = some (.int .u8 (xs.getD j 0)) := by
  cases a with
  | none => have := h.nil rfl; have := h.cap; omega
  | some ad =>
    obtain ⟨b, off, spot⟩ := ad
    have hc := h.cells _ rfl 0 hn
    have hspot : spot = none := by simpa [Addr.add] using World.cell?_spot hc
    subst hspot
    refine ⟨b, off, rfl, fun j hj => ?_⟩
    have := h.cells _ rfl j hj
    have hplain : (⟨b, off, none⟩ : Addr).add j = ⟨b, off + j, none⟩ := by unfold Addr.add; split <;> simp_all
    rw [hplain] at this
    exact this

/-! ### The form of a number -/
def formF : Nat → Nat → List Int
  | 0, n => [(n : Int)]
  | f + 1, n => if n < 128 then [(n : Int)] else ((n % 128 + 128 : Nat) : Int) :: formF f (n / 128)
def form (n : Nat) : List Int := formF n n

theorem formF_eq : ∀ f g n, n ≤ f → n ≤ g → formF f n = formF g n
  | 0, 0, _, _, _ => rfl
  | 0, g + 1, n, h, _ => by rw [formF, formF, if_pos (by omega)]
  | f + 1, 0, n, _, h => by rw [formF, formF, if_pos (by omega)]
  | f + 1, g + 1, n, h, h' => by
    rw [formF, formF]
    by_cases hn : n < 128
    · rw [if_pos hn, if_pos hn]
    · rw [if_neg hn, if_neg hn, formF_eq f g (n / 128) (by omega) (by omega)]

theorem form_small {n : Nat} (h : n < 128) : form n = [(n : Int)] := by
  unfold form
  cases n with
  | zero => rfl
  | succ m => rw [formF, if_pos h]
theorem form_big {n : Nat} (h : ¬ n < 128) : form n = ((n % 128 + 128 : Nat) : Int) :: form (n / 128) := by
  unfold form
  cases n with
  | zero => omega
  | succ m => rw [formF, if_neg h, formF_eq m ((m + 1) / 128) _ (by omega) (by omega)]
theorem form_induct {motive : Nat → Prop} (case1 : ∀ n, n < 128 → motive n) (case2 : ∀ n, ¬ n < 128 → motive (n / 128) → motive n) (n : Nat) : motive n := by
  have key : ∀ f n, n ≤ f → motive n := by
    intro f
    induction f with
    | zero => intro n h; exact case1 n (by omega)
    | succ f ih =>
      intro n h
      by_cases hn : n < 128
      · exact case1 n hn
      · exact case2 n hn (ih _ (by omega))
  exact key n n (Nat.le_refl _)

theorem form_bd (n : Nat) : Bd (form n) := by
  induction n using form_induct with
  | case1 n h => rw [form_small h]; intro x hx; simp at hx; omega
  | case2 n h ih =>
    rw [form_big h]; intro x hx
    rcases List.mem_cons.1 hx with g | g
    · subst g; omega
    · exact ih x g

theorem form_len (n k : Nat) (h : n < 2 ^ (7 * (k + 1))) : (form n).length ≤ k + 1 := by
  induction k generalizing n with
  | zero => rw [form_small (by simpa using h)]; simp
  | succ k ih =>
    by_cases hn : n < 128
    · rw [form_small hn]; simp
    · rw [form_big hn]
      have : n / 128 < 2 ^ (7 * (k + 1)) := by
        rw [Nat.div_lt_iff_lt_mul (by omega)]
        have e : 2 ^ (7 * (k + 1 + 1)) = 2 ^ (7 * (k + 1)) * 128 := by rw [Nat.mul_add 7 (k + 1) 1, Nat.pow_add]
        omega
      have := ih _ this
      simp; omega

theorem form_len10 (n : Nat) (h : n < 18446744073709551616) : (form n).length ≤ 10 := form_len n 9 (by
  have : (2 : Nat) ^ (7 * (9 + 1)) = 1180591620717411303424 := by decide
  omega)
theorem form_pos (n : Nat) : 1 ≤ (form n).length := by
  by_cases h : n < 128
  · rw [form_small h]; simp
  · rw [form_big h]; simp

/-! ### Reading a number: what it is, how many bytes it takes, the error's number -/
def scan : List Int → Nat → Nat → Nat × Nat × Nat
  | [], _, _ => (0, 0, 2)
  | c :: r, i, acc =>
    if i = 9 ∧ 1 < c then (0, 0, 3)
    else if 128 ≤ c then scan r (i + 1) (acc + (c % 128).toNat * 2 ^ (7 * i))
    else if c = 0 ∧ 0 < i then (0, 0, 2)
    else (acc + (c % 128).toNat * 2 ^ (7 * i), i + 1, 0)

theorem scan_far {z : Int} {r : List Int} {acc : Nat} (h : 1 < z) : scan (z :: r) 9 acc = (0, 0, 3) := by rw [scan, if_pos ⟨rfl, h⟩]
theorem scan_more {z : Int} {r : List Int} {k acc : Nat} (h : ¬ (k = 9 ∧ 1 < z)) (h1 : 128 ≤ z) : scan (z :: r) k acc = scan r (k + 1) (acc + (z % 128).toNat * 2 ^ (7 * k)) := by rw [scan, if_neg h, if_pos h1]
theorem scan_zero {r : List Int} {k acc : Nat} (h : 0 < k) : scan (0 :: r) k acc = (0, 0, 2) := by rw [scan, if_neg (by omega), if_neg (by omega), if_pos ⟨rfl, h⟩]
theorem scan_end {z : Int} {r : List Int} {k acc : Nat} (h : ¬ (k = 9 ∧ 1 < z)) (h1 : ¬ 128 ≤ z) (h2 : ¬ (z = 0 ∧ 0 < k)) : scan (z :: r) k acc = (acc + (z % 128).toNat * 2 ^ (7 * k), k + 1, 0) := by rw [scan, if_neg h, if_neg h1, if_neg h2]

theorem or_val {acc k : Nat} {z : Int} (h0 : 0 ≤ z) (h1 : z ≤ 255) (hk : k ≤ 9) (h9 : k = 9 → z ≤ 1) (hacc : acc < 2 ^ (7 * k)) :
    bits .or .u64 (acc : Int) (IntKind.u64.wrap (z % 128 * 2 ^ (7 * k))) = ((acc + (z % 128).toNat * 2 ^ (7 * k) : Nat) : Int) ∧ acc + (z % 128).toNat * 2 ^ (7 * k) < 2 ^ (7 * (k + 1)) ∧ acc + (z % 128).toNat * 2 ^ (7 * k) < 18446744073709551616 := by
  obtain ⟨d, hd, hd1⟩ : ∃ d : Nat, z % 128 = (d : Int) ∧ d < 128 := ⟨(z % 128).toNat, by omega, by omega⟩
  rw [hd]
  have e3 : ((d : Int)).toNat = d := by omega
  rw [e3]
  have hp : 0 < 2 ^ (7 * k) := Nat.two_pow_pos _
  have hmul : d * 2 ^ (7 * k) + 2 ^ (7 * k) ≤ 18446744073709551616 := by
    rcases Nat.lt_or_ge k 9 with g | g
    · have h56 : (2 : Nat) ^ 56 = 72057594037927936 := by decide
      have : 2 ^ (7 * k) ≤ 2 ^ 56 := Nat.pow_le_pow_right (by omega) (by omega)
      rw [h56] at this
      have h2 : d * 2 ^ (7 * k) ≤ 127 * 72057594037927936 := Nat.mul_le_mul (by omega) this
      omega
    · have hk9 : k = 9 := by omega
      subst hk9
      have := h9 rfl
      have : d ≤ 1 := by omega
      have e9 : (2 : Nat) ^ (7 * 9) = 9223372036854775808 := by decide
      rw [e9]
      omega
  have hsum : acc + d * 2 ^ (7 * k) < 18446744073709551616 := by omega
  refine ⟨?_, ?_, hsum⟩
  · have e1 : ((d : Int) * 2 ^ (7 * k)) = ((d * 2 ^ (7 * k) : Nat) : Int) := by simp
    have e4 : IntKind.u64.wrap ((d * 2 ^ (7 * k) : Nat) : Int) = ((d * 2 ^ (7 * k) : Nat) : Int) := by rw [IntKind.wrap_u64]; omega
    rw [e1, e4, u64_or_nat _ _ (by omega) (by omega)]
    congr 1
    rw [Nat.or_comm, ← Nat.shiftLeft_eq, ← Nat.shiftLeft_add_eq_or_of_lt hacc]
    omega
  · have e2 : 2 ^ (7 * (k + 1)) = 128 * 2 ^ (7 * k) := by rw [Nat.mul_add 7 k 1, Nat.pow_add, Nat.mul_comm]
    have h2 : d * 2 ^ (7 * k) ≤ 127 * 2 ^ (7 * k) := Nat.mul_le_mul (by omega) (Nat.le_refl _)
    omega

theorem ret3 {k1 k2 k3 : IntKind} {a b c a' b' c' : Int} (h1 : a = a') (h2 : b = b') (h3 : c = c') : Ending.returned (.tuple #[.int k1 a, .int k2 b, .int k3 c]) = .returned (.tuple #[.int k1 a', .int k2 b', .int k3 c']) := by rw [h1, h2, h3]

end Go.Proofs.YtiplalbicibahaaGreatDoor

/- What a call keeps of memory; append of bytes with its place told: the base of the Own texts in a seat without FrBase. -/
namespace Go.Proofs.YtiplalbicibahaaGreatDoor
open Go.RowKit

/-! ### What is kept: every old block but those of S -/
structure Keep (S : Nat → Prop) (w w' : World) : Prop where
  os : w'.os = w.os
  tape : w'.tape = w.tape
  output : w'.output = w.output
  size : w.heap.size ≤ w'.heap.size
  block : ∀ k, k < w.heap.size → ¬ S k → w'.heap[k]? = w.heap[k]?

theorem Keep.refl (S : Nat → Prop) (w : World) : Keep S w w := ⟨rfl, rfl, rfl, Nat.le_refl _, fun _ _ _ => rfl⟩
theorem Keep.trans {S : Nat → Prop} {a b c : World} (h : Keep S a b) (k : Keep S b c) : Keep S a c :=
  ⟨k.os.trans h.os, k.tape.trans h.tape, k.output.trans h.output, Nat.le_trans h.size k.size, fun i hi hs => (k.block i (Nat.lt_of_lt_of_le hi h.size) hs).trans (h.block i hi hs)⟩
/-- What the second step may turn must be let by the first's word, or be new. -/
theorem Keep.andThen {S T : Nat → Prop} {a b c : World} (h : Keep S a b) (k : Keep T b c) (hT : ∀ i, i < a.heap.size → T i → S i) : Keep S a c :=
  ⟨k.os.trans h.os, k.tape.trans h.tape, k.output.trans h.output, Nat.le_trans h.size k.size, fun i hi hs => (k.block i (Nat.lt_of_lt_of_le hi h.size) (fun t => hs (hT i hi t))).trans (h.block i hi hs)⟩
theorem Keep.mono {S T : Nat → Prop} {a b : World} (h : Keep S a b) (hST : ∀ i, S i → T i) : Keep T a b := ⟨h.os, h.tape, h.output, h.size, fun i hi hs => h.block i hi (fun s => hs (hST i s))⟩
theorem Keep.drew {S : Nat → Prop} {a b : World} (h : Keep S a b) : Keep S a b.drew := ⟨h.os, h.tape, h.output, h.size, h.block⟩
theorem Keep.ofGrown {w w' : World} {row : Option Nat} (h : w.grownBy w' row) : Keep (fun k => row = some k) w w' := ⟨h.os, h.tape, h.output, h.size, fun k hk hs => h.block k hk (fun e => hs e.symm)⟩
theorem Keep.ofBelow {S : Nat → Prop} {w w' : World} (h : Below w.heap.size w w') : Keep S w w' := ⟨h.os, h.tape, h.output, h.size, fun k hk _ => h.block k hk⟩
theorem Keep.below {S : Nat → Prop} {B : Nat} {w w' : World} (h : Keep S w w') (hB : B ≤ w.heap.size) (hS : ∀ k, S k → B ≤ k) : Below B w w' :=
  ⟨h.os, h.tape, h.output, h.size, fun k hk => h.block k (by omega) (fun s => by have := hS k s; omega)⟩
theorem Keep.alloc {S : Nat → Prop} {a w : World} (h : Keep S a w) (o : Obj) : Keep S a (w.alloc o) :=
  h.trans ⟨rfl, rfl, rfl, by simp, fun k hk _ => Below.heap_alloc _ _ _ hk⟩
theorem Keep.setCell {S : Nat → Prop} {a w : World} (h : Keep S a w) {p : Addr} (hp : S p.block) (u : Value) : Keep S a (w.setCell p u) :=
  h.trans ⟨rfl, rfl, rfl, by simp [World.setCell], fun k _ hs => Below.heap_setCell _ _ _ _ (fun e => hs (by rw [e]; exact hp))⟩
theorem Keep.setNew {S : Nat → Prop} {a w : World} (h : Keep S a w) {p : Addr} (hp : a.heap.size ≤ p.block) (u : Value) : Keep S a (w.setCell p u) :=
  h.andThen (T := fun k => k = p.block) ⟨rfl, rfl, rfl, by simp [World.setCell], fun k _ hs => Below.heap_setCell _ _ _ _ hs⟩ (fun i hi e => by omega)
theorem Keep.cell {S : Nat → Prop} {w w' : World} (h : Keep S w w') {p : Addr} {v : Value} (hc : w.cell? p = some v) (hs : ¬ S p.block) : w'.cell? p = some v :=
  (World.cell?_of_block (h.block p.block (World.block_lt_of_cell? w p hc) hs)).trans hc

theorem own_keep {S : Nat → Prop} {w w' : World} {B : Nat} {e : TypeId} {sz : Nat} {v : Value} {n : Nat} {xs : List Value} (h : w.ownsRow B e sz v n xs) (hk : Keep S w w') (hs : ∀ k, v.ownBlock = some k → ¬ S k) : w'.ownsRow B e sz v n xs := by
  obtain ⟨h1, h2⟩ := h
  refine ⟨h1, ?_⟩
  rcases h2 with h2 | ⟨g, cap, cur, hv, hg, hh, r⟩
  · exact Or.inl h2
  · refine Or.inr ⟨g, cap, cur, hv, hg, ?_, r⟩
    rw [hk.block g (Array.getElem?_eq_some_iff.1 hh).1 (hs g (by rw [hv]; rfl))]; exact hh

theorem own_weak {w : World} {B B' : Nat} {e : TypeId} {sz : Nat} {v : Value} {n : Nat} {xs : List Value} (h : w.ownsRow B e sz v n xs) (hB : B' ≤ B) : w.ownsRow B' e sz v n xs :=
  ⟨h.1, h.2.elim .inl (fun ⟨g, cap, cur, hv, hg, r⟩ => .inr ⟨g, cap, cur, hv, Nat.le_trans hB hg, r⟩)⟩
/-- A row owned from B on whose block lies from B' on. -/
theorem own_from {w : World} {B B' : Nat} {e : TypeId} {sz : Nat} {v : Value} {n : Nat} {xs : List Value} (h : w.ownsRow B e sz v n xs) (hB : ∀ k, v.ownBlock = some k → B' ≤ k) : w.ownsRow B' e sz v n xs :=
  ⟨h.1, h.2.elim .inl (fun ⟨g, cap, cur, hv, _, r⟩ => .inr ⟨g, cap, cur, hv, hB g (by rw [hv]; rfl), r⟩)⟩

theorem Rd.keep {S : Nat → Prop} {w w' : World} {a : Option Addr} {n c : Nat} {xs : List Int} (h : Rd w a n c xs) (hk : Keep S w w') (hs : ∀ ad, a = some ad → ¬ S ad.block) : Rd w' a n c xs :=
  ⟨h.len, h.cap, h.most, h.nil, h.bytes, fun ad ha j hj => by
    have hc := h.cells ad ha j hj
    exact hk.cell hc (by
      have : (ad.add j).block = ad.block := by unfold Addr.add; split <;> rfl
      rw [this]; exact hs ad ha)⟩

theorem rd_noneK {w : World} {a : Option Addr} {n c : Nat} {xs : List Int} (h : Rd w a n c xs) : a = none → n = 0 ∧ c = 0 := fun ha => by
  have := h.nil ha; have := h.cap; omega
theorem Rd.blk {w : World} {a : Option Addr} {n c : Nat} {xs : List Int} (h : Rd w a n c xs) (hn : 0 < n) {ad : Addr} (ha : a = some ad) : ad.block < w.heap.size := by
  have := World.block_lt_of_cell? w _ (h.cells ad ha 0 hn)
  have e : (ad.add 0).block = ad.block := by unfold Addr.add; split <;> rfl
  rwa [e] at this

theorem Rd.takeK {w : World} {a : Option Addr} {n c : Nat} {xs : List Int} (h : Rd w a n c xs) {k : Nat} (hk : k ≤ n) : Rd w a k c (xs.take k) := by
  refine ⟨by rw [List.length_take, h.len]; omega, by have := h.cap; omega, h.most, h.nil, h.bytes.take k, fun ad ha j hj => ?_⟩
  rw [h.cells ad ha j (by omega)]
  simp [List.getD, hj]

theorem Rd.drop {w : World} {b off n c : Nat} {xs : List Int} (h : Rd w (some ⟨b, off, none⟩) n c xs) {k : Nat} (hk : k ≤ n) : Rd w (some ⟨b, off + k, none⟩) (n - k) (c - k) (xs.drop k) := by
  refine ⟨by rw [List.length_drop, h.len], by have := h.cap; omega, by have := h.most; omega, (fun e => by cases e), h.bytes.drop k, fun ad ha j hj => ?_⟩
  cases ha
  have := h.cells _ rfl (k + j) (by omega)
  rw [add_flat] at this ⊢
  rw [← Nat.add_assoc] at this
  rw [this]
  simp [List.getD]

/-! ### append of bytes -/
set_option maxRecDepth 100000 in
theorem app_where {w : World} {base : Nat} {v : Value} {n : Nat} {xs : List Int} (hown : w.ownsRow base 5 1 v n (bc xs)) {ad : Addr} {m c : Nat} {ys : List Int} (hr : Rd w (some ad) m c ys) (hb : n + m ≤ 1000000000) {ty : TypeId} {v' : Value} {w' : World}
    (hrun : (Builtin.append_ #[96, 96] ty #[v, .slice (some ad) m c]).run Tryz.prog w = .ok v' w') : v'.ownBlock = v.ownBlock ∨ v'.ownBlock = some w.heap.size := by
  obtain ⟨i0, hi, hz0, hz1, hz2⟩ := info_parts Tryz.info5
  have hl : (bc ys).length = m * i0.size := by rw [bc_len, hr.len, hz1]; omega
  rcases hown.2 with ⟨rfl, rfl⟩ | ⟨g, cap, cur, rfl, hbg, hg, hnc, hcm, hcs, htake⟩
  · by_cases hm : m = 0
    · subst hm
      left
      simp [Builtin.append_, run_underlying Tryz.underlying96, sizeOf, typeInfo, hi, Builtin.lenOf, Builtin.firstCells, loadCells, loadCellsFrom] at hrun
      rw [← hrun.1]
    · right
      have hr2 := run_append_nil (P := Tryz.prog) w 96 ty 5 i0 (.int .u8 0) Tryz.underlying96 hi hz0 ad m c (bc ys) hl (hr.news rfl) (by omega) (by omega) (by rw [hz2]; omega)
      rw [hr2] at hrun
      injection hrun with e _
      rw [← e]; rfl
  · by_cases hroom : n + m ≤ cap
    · left
      have hr2 := run_append_room (P := Tryz.prog) w 96 ty 5 i0 Tryz.underlying96 hi g n cap cur hg ad m c (bc ys) hl (hr.news rfl) (bc_one ys) hroom (by rw [hl, hcs, hz1]; omega)
      rw [hr2] at hrun
      injection hrun with e _
      rw [← e]; rfl
    · right
      have hr2 := run_append_grow (P := Tryz.prog) w 96 ty 5 i0 (.int .u8 0) Tryz.underlying96 hi hz0 ⟨g, 0, none⟩ n cap (bc xs) (by rw [hown.1, hz1]) (hown.cells (g := g) rfl) ad m c (bc ys) hl (hr.news rfl) (by omega) (by omega) (growslice_fits (by omega) (by rw [hz2]; omega))
      rw [hr2] at hrun
      injection hrun with e _
      rw [← e]; rfl

/-- 'append(s, x...)' of bytes, s the call's own, x whatever slice of bytes. -/
theorem wp_appK {w : World} {ops : Array Oper} {rest : List Oper} {o : Oper} {a : Act} {Q : Exit → Act → World → Prop} (hgd : o.guard = none) (s x : Operand)
    (ho : o.op = .call { callee := .builtin .append, args := #[s, x], argTypes := #[96, 96] })
    (base : Nat) (v : Value) (n : Nat) (xs : List Int) (hs : a.eval s = v) (hown : w.ownsRow base 5 1 v n (bc xs))
    (ao : Option Addr) (m c : Nat) (ys : List Int) (hx : a.eval x = .slice ao m c) (hr : Rd w ao m c ys) (hb : n + m ≤ 1000000000) (hbase : base ≤ w.heap.size)
    (h : ∀ v' w', w'.ownsRow base 5 1 v' (n + m) (bc (xs ++ ys)) → w.grownBy w' v.ownBlock → (v'.ownBlock = v.ownBlock ∨ v'.ownBlock = some w.heap.size) → wpList Tryz.prog ops Q rest (a.put o.dst v') w') : wpList Tryz.prog ops Q (o :: rest) a w := by
  obtain ⟨i0, hi, hz0, hz1, hz2⟩ := info_parts Tryz.info5
  cases ao with
  | none =>
    obtain ⟨rfl, rfl⟩ := rd_noneK hr rfl
    have hys : ys = [] := List.eq_nil_of_length_eq_zero hr.len
    subst hys
    refine wpList_append_own_none hgd s x 96 ho base 5 i0 1 Tryz.underlying96 hi v n (bc xs) hs hown hx ?_
    refine h v w ?_ (World.grownBy.refl _ _) (.inl rfl)
    simpa using hown
  | some ad =>
    refine wpList_plain hgd fun K hK => ?_
    obtain ⟨v', w', hrun, h2, h3, _⟩ := run_append_own (P := Tryz.prog) w base 96 o.type 5 i0 (.int .u8 0) 1 1 Tryz.underlying96 hi hz0 hz1 hz2 rfl (by decide) v n (bc xs) hown ad m c (bc ys) (by rw [bc_len, hr.len]; omega) (hr.news rfl) (bc_one ys) (by unfold maxLen; omega) (by omega) hbase
    have hw := app_where hown hr hb hrun
    rw [← bc_append] at h2
    unfold Oper.wp
    simp only [execOp, ho, resolve, invoke, builtin, Sem.run_bind, Sem.run_pure, Result.andThen_ok, List.map_toArray, List.map_cons, List.map_nil, hs, hx, hrun]
    exact hK _ _ (h v' w' h2 h3 hw)

/-- The same where s is a new empty slice: in the world that was there before it. -/
theorem wp_app0K {w : World} {ops : Array Oper} {rest : List Oper} {o : Oper} {a : Act} {Q : Exit → Act → World → Prop} (hgd : o.guard = none) (s x : Operand)
    (ho : o.op = .call { callee := .builtin .append, args := #[s, x], argTypes := #[96, 96] })
    (hs : a.eval s = .slice (some ⟨w.heap.size, 0, none⟩) 0 0)
    (ao : Option Addr) (m c : Nat) (ys : List Int) (hx : a.eval x = .slice ao m c) (hr : Rd w ao m c ys) (hb : m ≤ 1000000000)
    (h : ∀ v' w', w'.ownsRow w.heap.size 5 1 v' m (bc ys) → Below w.heap.size w w' → (∃ g cap, v' = .slice (some ⟨g, 0, none⟩) m cap) → wpList Tryz.prog ops Q rest (a.put o.dst v') w') : wpList Tryz.prog ops Q (o :: rest) a (w.alloc (.cells #[] 5)) := by
  have hown : (w.alloc (.cells #[] 5)).ownsRow w.heap.size 5 1 (.slice (some ⟨w.heap.size, 0, none⟩) 0 0) 0 (bc []) := World.ownsRow_made w #[] 0 (Nat.le_refl _) (by unfold maxLen; omega) rfl
  refine wp_appK hgd s x ho w.heap.size _ 0 [] hs hown ao m c ys hx (hr.carry (Nat.le_refl _) ((Below.refl _ _).alloc (Nat.le_refl _) _)) (by omega) (by simp) ?_
  intro v' w' h1 h2 h3
  simp only [Nat.zero_add, List.nil_append] at h1
  refine h v' w' h1 (((Below.refl _ _).alloc (Nat.le_refl _) _).grown h2 (by simp) (fun k hk => ?_)) ?_
  · cases hk; exact Nat.le_refl _
  · rcases h1.2 with ⟨rfl, _⟩ | ⟨g, cap, cur, rfl, _⟩
    · rcases h3 with h3 | h3 <;> simp [Value.ownBlock] at h3
    · exact ⟨g, cap, rfl⟩

theorem rd_drewN {w : World} {a : Option Addr} {n c : Nat} {xs : List Int} (h : Rd w a n c xs) (k : Nat) : Rd (w.drewN k) a n c xs := ⟨h.len, h.cap, h.most, h.nil, h.bytes, h.cells⟩

end Go.Proofs.YtiplalbicibahaaGreatDoor

/- A region that draws its order, walked in one order: what only reads, and would read the same in every later world, may be taken first; what makes memory comes up alone. -/
namespace Go.Proofs.YtiplalbicibahaaGreatDoor
open Go.RowKit

/-- All blocks of w are in w' as they were. -/
def Ext (w w' : World) : Prop := Below w.heap.size w w'
theorem Ext.refl (w : World) : Ext w w := Below.refl _ _
theorem Ext.trans {a b c : World} (h : Ext a b) (k : Ext b c) : Ext a c := Below.trans h (Below.mono k h.size)
theorem Ext.drew {w w' : World} (h : Ext w w') : Ext w w'.drew := Below.drew h

section
variable {P : Program} {ops : Array Oper} {Q : Exit → Act → World → Prop} {md : Region.Mode}

theorem wpAnyH_weak {S S' : World → Prop} (h : ∀ w, S' w → S w) : ∀ (fuel : Nat) (listed : Array Bool) (a : Act) (w : World), wpAnyH P md ops Q S' fuel listed a w → wpAnyH P md ops Q S fuel listed a w
  | 0, _, _, _, k => k
  | fuel + 1, _, _, _, k => ⟨k.1, fun i hi => wpOp_mono (fun a' w' h' => ⟨h w' h'.1, wpAnyH_weak h fuel _ a' w' h'.2⟩) (k.2 i hi)⟩

/-- The operations in one order; the Bool: it only reads. -/
def seqX (P : Program) (ops : Array Oper) (Q : Exit → Act → World → Prop) : List (Nat × Bool) → Act → World → Prop
  | [], a, w => Q .normal a w
  | (i, rd) :: rest, a, w =>
    match ops[i]? with
    | none => False
    | some o =>
      if Region.wanted o (yielded ops a.tmps) = true then
        if rd = true then ∃ v, (∀ w', Ext w w' → (execOp a.eval o).run P w' = .ok (.value v) w') ∧ seqX P ops Q rest (a.put o.dst v) w
        else Oper.wp P o a w (fun a' w' => Ext w w' ∧ seqX P ops Q rest a' w') Q
      else seqX P ops Q rest (a.put o.dst undef) w

def seqOk (md : Region.Mode) (ops : Array Oper) : Array Bool → List (Nat × Bool) → Bool
  | listed, [] => (Region.ready md ops listed).isEmpty
  | listed, (i, rd) :: rest => (if rd then (Region.ready md ops listed).contains i && Region.free md ops listed i else Region.ready md ops listed == [i]) && seqOk md ops (listed.setIfInBounds i true) rest

theorem upon_mono {o : Oper} {a : Act} {K K' : Act → World → Prop} {r : Result Next} (h : ∀ a w, K a w → K' a w) (k : o.upon P a K Q r) : o.upon P a K' Q r := by
  cases r with
  | ok n w' =>
    cases n <;> simp only [Oper.upon] at k ⊢
    case value u => exact h _ _ k
    case skip => exact h _ _ k
    case defer d => exact h _ _ k
    case enter f args =>
      refine Calls.mono k fun e w'' he => ?_
      cases e with
      | returned u => exact h _ _ he
      | panicked c => exact he
      | outgrown => exact he
    case row row args => exact Rows.mono k fun u w'' he => h _ _ he
  | halt x w' =>
    cases x <;> simp only [Oper.upon] at k ⊢
    case panic u => exact k

theorem seqX_any (hs : Region.noSelect ops = true) (hQ : ∀ c (a : Act) d v w, Q (.panic c) (a.put d v) w → Q (.panic c) a w) :
    ∀ (l : List (Nat × Bool)) (listed : Array Bool) (a : Act) (w : World), seqOk md ops listed l = true → seqX P ops Q l a w → wpAnyH P md ops Q (Ext w) l.length listed a w := by
  intro l
  induction l with
  | nil => intro listed a w hok h; exact wpAnyH_done (by simpa [seqOk] using hok) h _
  | cons p rest ih =>
    obtain ⟨i, rd⟩ := p
    intro listed a w hok h
    unfold seqX at h
    cases ho : ops[i]? with
    | none => rw [ho] at h; exact h.elim
    | some o =>
      rw [ho] at h
      simp only at h
      rw [seqOk, Bool.and_eq_true] at hok
      by_cases hw : Region.wanted o (yielded ops a.tmps) = true
      · rw [if_pos hw] at h
        cases rd with
        | true =>
          rw [if_pos rfl] at h
          obtain ⟨v, hv, hrest⟩ := h
          have h1 := hok.1
          rw [if_pos rfl, Bool.and_eq_true] at h1
          exact wpAnyH_take ho hs h1.2 h1.1 (fun c a w => hQ c a o.dst v w) (Or.inl ⟨hw, hv⟩) (Ext.refl w) (ih _ _ _ hok.2 hrest)
        | false =>
          rw [if_neg (by decide)] at h
          have h1 := hok.1
          rw [if_neg (by decide)] at h1
          refine wpAnyH_all (rs := [i]) (by simpa using h1) (by simp) fun j hj => ?_
          have hj' : j = i := by simpa using hj
          subst hj'
          unfold wpOp
          rw [ho]
          simp only
          rw [if_pos hw]
          exact .inl (upon_mono (fun a' w' k => ⟨k.1, wpAnyH_weak (fun w'' e => Ext.trans k.1 e) _ _ _ _ (ih _ _ _ hok.2 k.2)⟩) h)
      · have hw' : Region.wanted o (yielded ops a.tmps) = false := by simpa using hw
        rw [if_neg hw] at h
        cases rd with
        | true =>
          have h1 := hok.1
          rw [if_pos rfl, Bool.and_eq_true] at h1
          exact wpAnyH_take ho hs h1.2 h1.1 (fun c a w => hQ c a o.dst undef w) (Or.inr ⟨hw', rfl⟩) (Ext.refl w) (ih _ _ _ hok.2 h)
        | false =>
          have h1 := hok.1
          rw [if_neg (by decide)] at h1
          refine wpAnyH_all (rs := [i]) (by simpa using h1) (by simp) fun j hj => ?_
          have hj' : j = i := by simpa using hj
          subst hj'
          unfold wpOp
          rw [ho]
          simp only
          rw [if_neg hw]
          exact ⟨Ext.refl w, ih _ _ _ hok.2 h⟩

/-- THE LAW: a region that draws, in one order. -/
theorem wp_region_seq {id : Nat} {a : Act} {w : World} (l : List (Nat × Bool)) (hm : P.follows .mixedOrders = true) (hs : Region.noSelect ops = true) (hl : l.length = ops.size)
    (hok : seqOk .any ops (Array.replicate ops.size false) l = true) (hQ : ∀ c (a : Act) d v w, Q (.panic c) (a.put d v) w → Q (.panic c) a w)
    (h : seqX P ops Q l a w.drew) : (Code.region id ops true).wp P Q a w :=
  wp_region_held hm (S := Ext w.drew) (by have k := seqX_any hs hQ l _ a w.drew hok h; rw [hl] at k; exact k)

theorem put_some (a : Act) (d : Tmp) (v : Value) : a.put (some d) v = { tmps := a.tmps.setIfInBounds d v, defers := a.defers } := rfl

theorem seqX_read {i : Nat} {rest : List (Nat × Bool)} {tm : Array Value} {df : List Deferred} {w : World} {o : Oper} {d : Tmp} (v : Value) (ho : ops[i]? = some o) (hd : o.dst = some d) (hw : Region.wanted o (yielded ops tm) = true)
    (hv : ∀ w', Ext w w' → (execOp (Act.eval { tmps := tm, defers := df }) o).run P w' = .ok (.value v) w') (h : seqX P ops Q rest { tmps := tm.setIfInBounds d v, defers := df } w) : seqX P ops Q ((i, true) :: rest) { tmps := tm, defers := df } w := by
  unfold seqX; rw [ho]; simp only; rw [if_pos hw, if_pos trivial]; exact ⟨v, hv, by rw [hd, put_some]; exact h⟩

theorem seqX_skip {i : Nat} {rd : Bool} {rest : List (Nat × Bool)} {tm : Array Value} {df : List Deferred} {w : World} {o : Oper} {d : Tmp} (ho : ops[i]? = some o) (hd : o.dst = some d) (hw : Region.wanted o (yielded ops tm) = false)
    (h : seqX P ops Q rest { tmps := tm.setIfInBounds d undef, defers := df } w) : seqX P ops Q ((i, rd) :: rest) { tmps := tm, defers := df } w := by
  unfold seqX; rw [ho]; simp only; rw [if_neg (by simp [hw]), hd, put_some]; exact h

theorem seqX_call {i : Nat} {rest : List (Nat × Bool)} {tm : Array Value} {df : List Deferred} {w : World} {o : Oper} {d : Tmp} (f : FuncId) (args : Array Value) (ho : ops[i]? = some o) (hd : o.dst = some d) (hw : Region.wanted o (yielded ops tm) = true)
    (hrun : (execOp (Act.eval { tmps := tm, defers := df }) o).run P w = .ok (.enter f args) w) (h : Calls P f args w fun e w' => ∃ v, e = .returned v ∧ Ext w w' ∧ seqX P ops Q rest { tmps := tm.setIfInBounds d v, defers := df } w') : seqX P ops Q ((i, false) :: rest) { tmps := tm, defers := df } w := by
  unfold seqX; rw [ho]; simp only; rw [if_pos hw, if_neg (by simp)]
  unfold Oper.wp
  rw [hrun, Oper.upon_enter]
  refine h.mono ?_
  rintro e w' ⟨v, rfl, h1, h2⟩
  show Ext w w' ∧ seqX P ops Q rest (Act.put { tmps := tm, defers := df } o.dst v) w'
  rw [hd, put_some]
  exact ⟨h1, h2⟩

theorem seqX_done {a : Act} {w : World} (h : Q .normal a w) : seqX P ops Q [] a w := h

end
end Go.Proofs.YtiplalbicibahaaGreatDoor

/- A region that draws its order, walked step by step, with late operations: what is asked of the world holds behind every operation but the late ones (the stores of an assignment, which wait for all that was read). -/
namespace Go.Proofs.YtiplalbicibahaaGreatDoor
open Go.RowKit

section
variable {P : Program} {ops : Array Oper} {Q : Exit → Act → World → Prop} {S : World → Prop} {T : List Nat} {md : Region.Mode}

/-- Whatever order is picked from here on, and S holds behind every operation that is carried out, but for the late ones. -/
def wpAnyT (P : Program) (md : Region.Mode) (ops : Array Oper) (Q : Exit → Act → World → Prop) (S : World → Prop) (T : List Nat) : Nat → Array Bool → Act → World → Prop
  | 0, listed, a, w => Region.ready md ops listed = [] ∧ Q .normal a w
  | fuel + 1, listed, a, w =>
    (Region.ready md ops listed = [] → Q .normal a w) ∧
    ∀ i ∈ Region.ready md ops listed, wpOp P ops Q i (fun a' w' => (T.contains i = false → S w') ∧ wpAnyT P md ops Q S T fuel (listed.setIfInBounds i true) a' w') a w

theorem wpAny_of_late : ∀ (fuel : Nat) (listed : Array Bool) (a : Act) (w : World), wpAnyT P md ops Q S T fuel listed a w → wpAny P md ops Q fuel listed a w
  | 0, _, _, _, h => h
  | fuel + 1, _, _, _, h => ⟨h.1, fun i hi => wpOp_mono (fun a' w' h' => wpAny_of_late fuel _ a' w' h'.2) (h.2 i hi)⟩

/-- Every late operation that has not come up waits for number i. -/
def lateOk (md : Region.Mode) (ops : Array Oper) (T : List Nat) (listed : Array Bool) (i : Nat) : Bool :=
  T.all fun t => listed.getD t true || match ops[t]? with
    | some o => o.after.any (fun e => Region.binds md e && e.on == i)
    | none => true

theorem lateOk_spec {listed : Array Bool} {i : Nat} (h : lateOk md ops T listed i = true) (t : Nat) (ht : t ∈ T) (hu : listed.getD t true = false) (o : Oper) (ho : ops[t]? = some o) : ∃ e ∈ o.after, Region.binds md e = true ∧ e.on = i := by
  have h1 := List.all_eq_true.1 h t ht
  simp only [hu, ho, Bool.false_or] at h1
  obtain ⟨e, he, hb⟩ := Array.any_eq_true'.1 h1
  simp only [Bool.and_eq_true, beq_iff_eq] at hb
  exact ⟨e, he, hb.1, hb.2⟩

theorem lateOk_set {listed : Array Bool} {i j : Nat} (h : lateOk md ops T listed i = true) : lateOk md ops T (listed.setIfInBounds j true) i = true := by
  refine List.all_eq_true.2 fun t ht => ?_
  have h1 := List.all_eq_true.1 h t ht
  rw [Bool.or_eq_true] at h1 ⊢
  rcases h1 with h1 | h1
  · left
    by_cases hjt : j = t
    · subst hjt
      rcases Nat.lt_or_ge j listed.size with g | g
      · simp [Array.getD, g]
      · simp [Array.getD, Nat.not_lt.2 g]
    · rw [getD_set_ne true hjt]; exact h1
  · exact .inr h1

theorem wpAnyT_first {i : Nat} {oi : Oper} {v : Value} (hi : ops[i]? = some oi) (hsel : ∀ (j : Nat) (o : Oper) cs b, ops[j]? = some o → o.op ≠ .select cs b)
    (hQ : ∀ c a w, Q (.panic c) (a.put oi.dst v) w → Q (.panic c) a w) (hiT : T.contains i = false) :
    ∀ (fuel : Nat) (listed : Array Bool) (a : Act) (w : World),
      (∀ j oj, ops[j]? = some oj → j ≠ i → listed.getD j true = false → (∀ e ∈ oj.after, Region.binds md e = true → e.on ≠ i) → oi.apart ops oj = true) →
      lateOk md ops T listed i = true →
      i ∈ Region.ready md ops listed → YieldsIf P ops S oi v a → S w →
      wpAnyT P md ops Q S T fuel (listed.setIfInBounds i true) (a.put oi.dst v) w → wpAnyT P md ops Q S T (fuel + 1) listed a w := by
  intro fuel
  induction fuel with
  | zero =>
    intro listed a w _ _ hr hy hS H
    refine ⟨fun h => (by rw [h] at hr; cases hr), fun j hj => ?_⟩
    by_cases hji : j = i
    · subst hji; exact hy.wpOp hi hS ⟨fun _ => hS, H⟩
    · have := ready_mono hj hji
      rw [H.1] at this
      cases this
  | succ fuel ih =>
    intro listed a w hfree hlate hr hy hS H
    refine ⟨fun h => (by rw [h] at hr; cases hr), fun j hj => ?_⟩
    by_cases hji : j = i
    · subst hji; exact hy.wpOp hi hS ⟨fun _ => hS, H⟩
    · have h1 := H.2 j (ready_mono hj hji)
      obtain ⟨hjun, oj, hoj, hall⟩ := mem_ready.1 hj
      have hnot : ∀ e ∈ oj.after, Region.binds md e = true → e.on ≠ i := fun e he hb heq => by
        have h1 := hall e he hb
        have h0 := (mem_ready.1 hr).1
        rw [heq] at h1
        rcases Nat.lt_or_ge i listed.size with h' | h'
        · simp [h'] at h0 h1; rw [h0] at h1; cases h1
        · simp [Array.getElem?_eq_none h'] at h1
      have hjT : T.contains j = false := by
        cases hc : T.contains j with
        | false => rfl
        | true =>
          obtain ⟨e, he, hb, hon⟩ := lateOk_spec hlate j (List.contains_iff_mem.1 hc) hjun oj hoj
          exact absurd hon (hnot e he hb)
      have h2 := wpOp_putIf hoj (hfree j oj hoj hji hjun hnot) (fun cs b => hsel i oi cs b hi) (fun cs b => hsel j oj cs b hoj) hQ hy h1
      have hfree' : ∀ k ok, ops[k]? = some ok → k ≠ i → (listed.setIfInBounds j true).getD k true = false →
          (∀ e ∈ ok.after, Region.binds md e = true → e.on ≠ i) → oi.apart ops ok = true := fun k ok hk hki hun hno => by
        refine hfree k ok hk hki ?_ hno
        by_cases hjk : j = k
        · subst hjk; exact hjun
        · rw [getD_set_ne true hjk] at hun; exact hun
      refine wpOp_mono (fun a' w' h3 => ⟨h3.2.1, ih (listed.setIfInBounds j true) a' w' hfree' (lateOk_set hlate) (ready_mono hr (Ne.symm hji)) h3.1 (h3.2.1 hjT) ?_⟩) h2
      rw [Array.setIfInBounds_comm _ _ hji]
      exact h3.2.2

/-- What is left of a region. -/
structure LX (P : Program) (ops : Array Oper) (Q : Exit → Act → World → Prop) (S : World → Prop) (T : List Nat) (fuel : Nat) (listed : Array Bool) (a : Act) (w : World) : Prop where
  out : wpAnyT P .any ops Q S T fuel listed a w

/-- What one operation owes. -/
def stepT (P : Program) (ops : Array Oper) (Q : Exit → Act → World → Prop) (S : World → Prop) (T : List Nat) (i : Nat) (K : Act → World → Prop) (a : Act) (w : World) : Prop :=
  wpOp P ops Q i (fun a' w' => (T.contains i = false → S w') ∧ K a' w') a w

theorem wp_region_lx {id : Nat} {a : Act} {w : World} (S : World → Prop) (T : List Nat) (n : Nat) (hm : P.follows .mixedOrders = true) (hn : ops.size = n) (h : LX P ops Q S T n (Array.replicate n false) a w.drew) : (Code.region id ops true).wp P Q a w := by
  subst hn
  exact wp_region_any hm (wpAny_of_late _ _ _ _ h.out)

theorem lx_nil {fuel : Nat} {listed : Array Bool} {a : Act} {w : World} (hr : (Region.ready .any ops listed).isEmpty = true) (h : Q .normal a w) : LX P ops Q S T fuel listed a w := by
  have hr' : Region.ready .any ops listed = [] := by simpa using hr
  cases fuel with
  | zero => exact ⟨hr', h⟩
  | succ f => exact ⟨fun _ => h, by rw [hr']; simp⟩

theorem lx_rd {fuel : Nat} {listed : Array Bool} {tm : Array Value} {df : List Deferred} {w : World} {o : Oper} {d : Tmp} (i : Nat) (v : Value) (hs : Region.noSelect ops = true) (hQ : ∀ c (a : Act) d v w, Q (.panic c) (a.put d v) w → Q (.panic c) a w) (hr : ((Region.ready .any ops listed).contains i && Region.free .any ops listed i && lateOk .any ops T listed i && !T.contains i) = true)
    (hS : S w) (ho : ops[i]? = some o) (hd : o.dst = some d) (hw : Region.wanted o (yielded ops tm) = true)
    (hv : ∀ w', S w' → (execOp (Act.eval { tmps := tm, defers := df }) o).run P w' = .ok (.value v) w') (h : LX P ops Q S T fuel (listed.setIfInBounds i true) { tmps := tm.setIfInBounds d v, defers := df } w) : LX P ops Q S T (fuel + 1) listed { tmps := tm, defers := df } w := by
  rw [Bool.and_eq_true, Bool.and_eq_true, Bool.and_eq_true] at hr
  refine ⟨wpAnyT_first ho (Region.noSelect_spec hs) (fun c a w => hQ c a o.dst v w) (by simpa using hr.2) fuel listed _ _ (Region.free_spec ho hr.1.1.2) hr.1.2 (by simpa using hr.1.1.1) (Or.inl ⟨hw, hv⟩) hS ?_⟩
  have := h.out
  rw [hd, put_some]; exact this

/-- An operation whose guard is false. -/
theorem lx_skip {fuel : Nat} {listed : Array Bool} {tm : Array Value} {df : List Deferred} {w : World} {o : Oper} {d : Tmp} (i : Nat) (hs : Region.noSelect ops = true) (hQ : ∀ c (a : Act) d v w, Q (.panic c) (a.put d v) w → Q (.panic c) a w) (hr : ((Region.ready .any ops listed).contains i && Region.free .any ops listed i && lateOk .any ops T listed i && !T.contains i) = true)
    (hS : S w) (ho : ops[i]? = some o) (hd : o.dst = some d) (hw : Region.wanted o (yielded ops tm) = false)
    (h : LX P ops Q S T fuel (listed.setIfInBounds i true) { tmps := tm.setIfInBounds d undef, defers := df } w) : LX P ops Q S T (fuel + 1) listed { tmps := tm, defers := df } w := by
  rw [Bool.and_eq_true, Bool.and_eq_true, Bool.and_eq_true] at hr
  refine ⟨wpAnyT_first ho (Region.noSelect_spec hs) (fun c a w => hQ c a o.dst undef w) (by simpa using hr.2) fuel listed _ _ (Region.free_spec ho hr.1.1.2) hr.1.2 (by simpa using hr.1.1.1) (Or.inr ⟨hw, rfl⟩) hS ?_⟩
  have := h.out
  rw [hd, put_some]; exact this

/-- lx_rd and lx_skip, the closed facts left to the kernel. -/
theorem lx_r {fuel : Nat} {listed : Array Bool} {tm : Array Value} {df : List Deferred} {w : World} {o : Oper} {d : Tmp} (i : Nat) (v : Value) (hS : S w)
    (h : LX P ops Q S T fuel (listed.setIfInBounds i true) { tmps := tm.setIfInBounds d v, defers := df } w) (hs : Region.noSelect ops = true := by kernel_rfl) (hQ : ∀ c (a : Act) d v w, Q (.panic c) (a.put d v) w → Q (.panic c) a w := by intro _ _ d _ _ h; cases d <;> exact h) (hr : ((Region.ready .any ops listed).contains i && Region.free .any ops listed i && lateOk .any ops T listed i && !T.contains i) = true := by kernel_rfl)
    (ho : ops[i]? = some o := by rfl) (hd : o.dst = some d := by rfl) (hw : Region.wanted o (yielded ops tm) = true := by rfl)
    (hv : ∀ w', S w' → (execOp (Act.eval { tmps := tm, defers := df }) o).run P w' = .ok (.value v) w' := by intro w' hS; first | (go_simp; rfl) | go_simp) : LX P ops Q S T (fuel + 1) listed { tmps := tm, defers := df } w := lx_rd i v hs hQ hr hS ho hd hw hv h
theorem lx_s {fuel : Nat} {listed : Array Bool} {tm : Array Value} {df : List Deferred} {w : World} {o : Oper} {d : Tmp} (i : Nat) (hS : S w)
    (h : LX P ops Q S T fuel (listed.setIfInBounds i true) { tmps := tm.setIfInBounds d undef, defers := df } w) (hs : Region.noSelect ops = true := by kernel_rfl) (hQ : ∀ c (a : Act) d v w, Q (.panic c) (a.put d v) w → Q (.panic c) a w := by intro _ _ d _ _ h; cases d <;> exact h) (hr : ((Region.ready .any ops listed).contains i && Region.free .any ops listed i && lateOk .any ops T listed i && !T.contains i) = true := by kernel_rfl)
    (ho : ops[i]? = some o := by rfl) (hd : o.dst = some d := by rfl) (hw : Region.wanted o (yielded ops tm) = false := by rfl) : LX P ops Q S T (fuel + 1) listed { tmps := tm, defers := df } w := lx_skip i hs hQ hr hS ho hd hw h
theorem lxa {α : Type _} (l : List α) (i : Nat) (a : α) : l.toArray.setIfInBounds i a = (l.set i a).toArray := List.setIfInBounds_toArray ..
theorem lxb {α : Type _} (x : α) (l : List α) (a : α) : (x :: l).set 0 a = a :: l := rfl
theorem lxc {α : Type _} (x : α) (l : List α) (n : Nat) (a : α) : (x :: l).set (n + 1) a = x :: l.set n a := rfl

theorem lx_one {fuel : Nat} {listed : Array Bool} {a : Act} {w : World} (i : Nat) (hr : (Region.ready .any ops listed == [i]) = true) (h : stepT P ops Q S T i (LX P ops Q S T fuel (listed.setIfInBounds i true)) a w) : LX P ops Q S T (fuel + 1) listed a w := by
  have hr' : Region.ready .any ops listed = [i] := by simpa using hr
  refine ⟨⟨fun h0 => absurd (hr' ▸ h0) (by simp), fun j hj => ?_⟩⟩
  have hj' : j = i := by rw [hr'] at hj; simpa using hj
  subst hj'
  exact wpOp_mono (fun a' w' k => ⟨k.1, k.2.out⟩) h

theorem lx_two {fuel : Nat} {listed : Array Bool} {a : Act} {w : World} (i j : Nat) (hr : (Region.ready .any ops listed == [i, j]) = true) (h1 : stepT P ops Q S T i (LX P ops Q S T fuel (listed.setIfInBounds i true)) a w) (h2 : stepT P ops Q S T j (LX P ops Q S T fuel (listed.setIfInBounds j true)) a w) : LX P ops Q S T (fuel + 1) listed a w := by
  have hr' : Region.ready .any ops listed = [i, j] := by simpa using hr
  refine ⟨⟨fun h0 => absurd (hr' ▸ h0) (by simp), fun k hk => ?_⟩⟩
  rw [hr'] at hk
  by_cases hki : k = i
  · subst hki
    exact wpOp_mono (fun a' w' k => ⟨k.1, k.2.out⟩) h1
  · have hkj : k = j := by simpa [hki] using hk
    subst hkj
    exact wpOp_mono (fun a' w' k => ⟨k.1, k.2.out⟩) h2

theorem stepT_call {i : Nat} {K : Act → World → Prop} {tm : Array Value} {df : List Deferred} {w : World} {o : Oper} {d : Tmp} (f : FuncId) (args : Array Value) (ho : ops[i]? = some o) (hd : o.dst = some d) (hw : Region.wanted o (yielded ops tm) = true)
    (hrun : (execOp (Act.eval { tmps := tm, defers := df }) o).run P w = .ok (.enter f args) w) (h : Calls P f args w fun e w' => ∃ v, e = .returned v ∧ (T.contains i = false → S w') ∧ K { tmps := tm.setIfInBounds d v, defers := df } w') : stepT P ops Q S T i K { tmps := tm, defers := df } w := by
  unfold stepT wpOp
  rw [ho]
  simp only
  rw [if_pos hw]
  refine .inl ?_
  unfold Oper.wp
  rw [hrun, Oper.upon_enter]
  refine h.mono ?_
  rintro e w' ⟨v, rfl, h1, h2⟩
  show (T.contains i = false → S w') ∧ K (Act.put { tmps := tm, defers := df } o.dst v) w'
  rw [hd, put_some]
  exact ⟨h1, h2⟩

/-- A call that may panic. -/
theorem stepT_callP {i : Nat} {K : Act → World → Prop} {tm : Array Value} {df : List Deferred} {w : World} {o : Oper} {d : Tmp} (f : FuncId) (args : Array Value) (ho : ops[i]? = some o) (hd : o.dst = some d) (hw : Region.wanted o (yielded ops tm) = true)
    (hrun : (execOp (Act.eval { tmps := tm, defers := df }) o).run P w = .ok (.enter f args) w) (h : Calls P f args w fun e w' => (∃ v, e = .returned v ∧ (T.contains i = false → S w') ∧ K { tmps := tm.setIfInBounds d v, defers := df } w') ∨ ∃ c, e = .panicked c ∧ Q (.panic c) { tmps := tm, defers := df } w') : stepT P ops Q S T i K { tmps := tm, defers := df } w := by
  unfold stepT wpOp
  rw [ho]
  simp only
  rw [if_pos hw]
  refine .inl ?_
  unfold Oper.wp
  rw [hrun, Oper.upon_enter]
  refine h.mono ?_
  rintro e w' (⟨v, rfl, h1, h2⟩ | ⟨c, rfl, h1⟩)
  · show (T.contains i = false → S w') ∧ K (Act.put { tmps := tm, defers := df } o.dst v) w'
    rw [hd, put_some]
    exact ⟨h1, h2⟩
  · exact h1

theorem stepT_val {i : Nat} {K : Act → World → Prop} {tm : Array Value} {df : List Deferred} {w w' : World} {o : Oper} {d : Tmp} (v : Value) (ho : ops[i]? = some o) (hd : o.dst = some d) (hw : Region.wanted o (yielded ops tm) = true)
    (hrun : (execOp (Act.eval { tmps := tm, defers := df }) o).run P w = .ok (.value v) w') (hS : T.contains i = false → S w') (h : K { tmps := tm.setIfInBounds d v, defers := df } w') : stepT P ops Q S T i K { tmps := tm, defers := df } w := by
  unfold stepT wpOp
  rw [ho]
  simp only
  rw [if_pos hw]
  refine .inl ?_
  unfold Oper.wp
  rw [hrun]
  show (T.contains i = false → S w') ∧ K (Act.put { tmps := tm, defers := df } o.dst v) w'
  rw [hd, put_some]
  exact ⟨hS, h⟩

/-- A call whose answer nobody takes. -/
theorem stepT_valN {i : Nat} {K : Act → World → Prop} {tm : Array Value} {df : List Deferred} {w w' : World} {o : Oper} (v : Value) (ho : ops[i]? = some o) (hd : o.dst = none) (hw : Region.wanted o (yielded ops tm) = true)
    (hrun : (execOp (Act.eval { tmps := tm, defers := df }) o).run P w = .ok (.value v) w') (hS : T.contains i = false → S w') (h : K { tmps := tm, defers := df } w') : stepT P ops Q S T i K { tmps := tm, defers := df } w := by
  unfold stepT wpOp
  rw [ho]
  simp only
  rw [if_pos hw]
  refine .inl ?_
  unfold Oper.wp
  rw [hrun]
  show (T.contains i = false → S w') ∧ K (Act.put { tmps := tm, defers := df } o.dst v) w'
  rw [hd]
  exact ⟨hS, h⟩
/-- A store. -/
theorem stepT_store {i : Nat} {K : Act → World → Prop} {tm : Array Value} {df : List Deferred} {w w' : World} {o : Oper} (ho : ops[i]? = some o) (hd : o.dst = none) (hw : Region.wanted o (yielded ops tm) = true)
    (hrun : (execOp (Act.eval { tmps := tm, defers := df }) o).run P w = .ok .skip w') (hS : T.contains i = false → S w') (h : K { tmps := tm, defers := df } w') : stepT P ops Q S T i K { tmps := tm, defers := df } w := by
  unfold stepT wpOp
  rw [ho]
  simp only
  rw [if_pos hw]
  refine .inl ?_
  unfold Oper.wp
  rw [hrun]
  show (T.contains i = false → S w') ∧ K (Act.put { tmps := tm, defers := df } o.dst undef) w'
  rw [hd]
  exact ⟨hS, h⟩

end
end Go.Proofs.YtiplalbicibahaaGreatDoor

/- Names, by definition, over lists of bytes: what name's functions are held against. No program in this text. -/
namespace Go.Proofs.YtiplalbicibahaaGreatDoor.Nm
open Go.Lib

def small (r : Int) : Int := if 65 ≤ r ∧ r ≤ 90 then r + 32 else r
def foldR (r : Int) : Int := if (65 ≤ r ∧ r ≤ 90) ∨ (192 ≤ r ∧ r ≤ 222 ∧ r ≠ 215) ∨ (913 ≤ r ∧ r ≤ 937 ∧ r ≠ 930) ∨ (1040 ≤ r ∧ r ≤ 1071) then r + 32 else r
def labelB (r : Int) : Bool := decide ((97 ≤ r ∧ r ≤ 122) ∨ (48 ≤ r ∧ r ≤ 57))
def letterB (r : Int) : Bool := decide ((97 ≤ r ∧ r ≤ 122) ∨ (48 ≤ r ∧ r ≤ 57) ∨ r = 46 ∨ r = 45 ∨ r = 95 ∨ (223 ≤ r ∧ r ≤ 255 ∧ r ≠ 247) ∨ (945 ≤ r ∧ r ≤ 969) ∨ (1072 ≤ r ∧ r ≤ 1103))
def followsB (last r : Int) : Bool := if r = 46 then labelB last else if r = 45 then decide (last ≠ 46) else labelB r
def resB (r : Int) : Bool := decide (¬ (r < 32 ∨ (127 ≤ r ∧ r ≤ 159) ∨ r = 65534 ∨ r = 65535))

def stepL (_ r : Int) : Option Int := if letterB (foldR r) = true then some (foldR r) else none
def stepH (st r : Int) : Option Int := if followsB st (small r) = true then some (small r) else none
def stepR (_ r : Int) : Option Int := if resB r = true then some r else none

def eachGo (step : Int → Int → Option Int) : Nat → Int → List UInt8 → Option (List UInt8 × Int)
  | 0, st, _ => some ([], st)
  | n + 1, st, l =>
    if l = [] then some ([], st)
    else match step st ((decodeL l).1 : Int) with
      | none => none
      | some r => match eachGo step n r (l.drop (decodeL l).2) with
        | none => none
        | some (bs, st') => some (encodeRune r ++ bs, st')

def each (step : Int → Int → Option Int) (st : Int) (l : List UInt8) : Option (List UInt8 × Int) := eachGo step l.length st l

theorem eachGo_fuel (step : Int → Int → Option Int) : ∀ (n m : Nat) (st : Int) (l : List UInt8), l.length ≤ n → l.length ≤ m → eachGo step n st l = eachGo step m st l
  | 0, 0, _, _, _, _ => rfl
  | 0, m + 1, st, l, h, _ => by
    have : l = [] := List.length_eq_zero_iff.1 (by omega)
    simp [eachGo, this]
  | n + 1, 0, st, l, _, h => by
    have : l = [] := List.length_eq_zero_iff.1 (by omega)
    simp [eachGo, this]
  | n + 1, m + 1, st, l, h1, h2 => by
    by_cases hl : l = []
    · simp [eachGo, hl]
    · have hw := decodeL_width l
      have hp : 0 < l.length := List.length_pos_iff.2 hl
      have e : ∀ r, eachGo step n r (l.drop (decodeL l).2) = eachGo step m r (l.drop (decodeL l).2) := fun r =>
        eachGo_fuel step n m r _ (by rw [List.length_drop]; omega) (by rw [List.length_drop]; omega)
      simp only [eachGo, hl, if_false, e]

theorem each_nil (step : Int → Int → Option Int) (st : Int) : each step st [] = some ([], st) := rfl
theorem each_step (step : Int → Int → Option Int) (st : Int) (l : List UInt8) (hl : l ≠ []) :
    each step st l = match step st ((decodeL l).1 : Int) with
      | none => none
      | some r => match each step r (l.drop (decodeL l).2) with
        | none => none
        | some (bs, st') => some (encodeRune r ++ bs, st') := by
  have hp : 0 < l.length := List.length_pos_iff.2 hl
  obtain ⟨n, hn⟩ : ∃ n, l.length = n + 1 := ⟨l.length - 1, by omega⟩
  have hw := decodeL_width l
  unfold each
  rw [hn]
  have e : ∀ r, eachGo step n r (l.drop (decodeL l).2) = eachGo step (l.drop (decodeL l).2).length r (l.drop (decodeL l).2) := fun r =>
    eachGo_fuel step _ _ r _ (by rw [List.length_drop]; omega) (Nat.le_refl _)
  simp only [eachGo, hl, if_false, e]

/-- What a text becomes, and the error's number. -/
def prep (step : Int → Int → Option Int) (fin : Int → Bool) (l : List UInt8) : List UInt8 × Nat :=
  if 64 < l.length then ([], 5)
  else if l = [] ∨ validD l = false then ([], 4)
  else match each step 46 l with
    | none => ([], 4)
    | some (bs, st) => if fin st = true then (bs, 0) else ([], 4)

def localN (l : List UInt8) : List UInt8 × Nat := prep stepL (fun _ => true) l
def hostN (l : List UInt8) : List UInt8 × Nat := prep stepH (fun st => followsB st 46) l
def resN (l : List UInt8) : List UInt8 × Nat := prep stepR (fun _ => true) l

/-- Where a byte stands first (the length: nowhere). -/
def ix (c : UInt8) (l : List UInt8) : Nat := l.findIdx (fun b => b == c)
def cutA (c : UInt8) (l : List UInt8) : List UInt8 := l.take (ix c l)
def cutZ (c : UInt8) (l : List UInt8) : List UInt8 := l.drop (ix c l + 1)
def hasB (c : UInt8) (l : List UInt8) : Bool := decide (ix c l < l.length)

def partL (l : List UInt8) : List UInt8 × Nat := if hasB 64 (cutA 47 l) = true then localN (cutA 64 (cutA 47 l)) else ([], 0)
def partH (l : List UInt8) : List UInt8 × Nat := hostN (if hasB 64 (cutA 47 l) = true then cutZ 64 (cutA 47 l) else cutA 47 l)
def partR (l : List UInt8) : List UInt8 × Nat := if hasB 47 l = true then resN (cutZ 47 l) else ([], 0)

structure Jid where
  l : List UInt8
  h : List UInt8
  r : List UInt8

def parseN (l : List UInt8) : Jid × Nat :=
  if (partL l).2 ≠ 0 then (⟨[], [], []⟩, (partL l).2)
  else if (partH l).2 ≠ 0 then (⟨[], [], []⟩, (partH l).2)
  else if (partR l).2 ≠ 0 then (⟨[], [], []⟩, (partR l).2)
  else (⟨(partL l).1, (partH l).1, (partR l).1⟩, 0)

def optL (l : List UInt8) : List UInt8 × Nat := if l = [] then ([], 0) else localN l
def optR (l : List UInt8) : List UInt8 × Nat := if l = [] then ([], 0) else resN l

def textN (j : Jid) : List UInt8 × Nat :=
  if (hostN j.h).2 ≠ 0 then ([], (hostN j.h).2)
  else if (optL j.l).2 ≠ 0 then ([], (optL j.l).2)
  else if (optR j.r).2 ≠ 0 then ([], (optR j.r).2)
  else ((if j.l = [] then [] else (localN j.l).1 ++ [64]) ++ (hostN j.h).1 ++ (if j.r = [] then [] else 47 :: (resN j.r).1), 0)

/-! ### plain facts -/

theorem prep_cases (step : Int → Int → Option Int) (fin : Int → Bool) (l : List UInt8) : (prep step fin l).2 = 0 ∨ ((prep step fin l).1 = [] ∧ ((prep step fin l).2 = 4 ∨ (prep step fin l).2 = 5)) := by
  unfold prep
  split
  · exact .inr ⟨rfl, .inr rfl⟩
  · split
    · exact .inr ⟨rfl, .inl rfl⟩
    · split
      · exact .inr ⟨rfl, .inl rfl⟩
      · split
        · exact .inl rfl
        · exact .inr ⟨rfl, .inl rfl⟩

theorem ix_le (c : UInt8) (l : List UInt8) : ix c l ≤ l.length := List.findIdx_le_length
theorem indexByte_ix (c : UInt8) : ∀ l : List UInt8, indexByte l c = if ix c l < l.length then (ix c l : Int) else -1
  | [] => rfl
  | b :: l => by
    have ih := indexByte_ix c l
    have hle := ix_le c l
    by_cases hb : (b == c) = true
    · simp [indexByte, ix, List.findIdx_cons, hb]
    · have e : ix c (b :: l) = ix c l + 1 := by simp [ix, List.findIdx_cons, hb]
      rw [indexByte, if_neg hb, ih, e]
      by_cases h : ix c l < l.length
      · have h1 : ix c l + 1 < (b :: l).length := by rw [List.length_cons]; omega
        rw [if_pos h, if_pos h1, if_neg (by simp only [beq_iff_eq]; omega)]; rfl
      · have h1 : ¬ ix c l + 1 < (b :: l).length := by rw [List.length_cons]; omega
        rw [if_neg h, if_neg h1, if_pos (by rfl)]
end Go.Proofs.YtiplalbicibahaaGreatDoor.Nm

/- name's small functions: what each answers. -/
namespace Go.Proofs.YtiplalbicibahaaGreatDoor.Nm
open Go.RowKit

theorem ret_bool {a b : Bool} (h : a = b) : Ending.returned (.bool a) = .returned (.bool b) := by rw [h]
theorem ret_int {k : IntKind} {a b : Int} (h : a = b) : Ending.returned (.int k a) = .returned (.int k b) := by rw [h]

theorem within_any (r a b : Int) (w : World) : Calls Tryz.prog 123 #[.int .i32 r, .int .i32 a, .int .i32 b] w fun e w' => e = .returned (.bool (decide (a ≤ r ∧ r ≤ b))) ∧ w' = w := by
  go_enter Tryz.func123, Tryz.ntmps123
  go_wp2
  all_goals go_ret
  all_goals (refine ⟨ret_bool ?_, rfl⟩; simp_all)
  all_goals omega

theorem ofLabel_any (r : Int) (w : World) : Calls Tryz.prog 125 #[.int .i32 r] w fun e w' => e = .returned (.bool (labelB r)) ∧ w' = w := by
  unfold labelB
  go_enter Tryz.func125, Tryz.ntmps125
  go_wp2_with (go_at_call 123; refine (within_any _ _ _ _).mono ?_; rintro e w1 ⟨rfl, rfl⟩)
  all_goals go_ret
  all_goals (refine ⟨ret_bool ?_, rfl⟩; simp_all)

theorem small_any (r : Int) (w : World) (h0 : 0 ≤ r) (h1 : r ≤ 1114111) : Calls Tryz.prog 124 #[.int .i32 r] w fun e w' => e = .returned (.int .i32 (small r)) ∧ w' = w := by
  unfold small
  by_cases hc : 65 ≤ r ∧ r ≤ 90
  · have hd : decide (65 ≤ r ∧ r ≤ 90) = true := decide_eq_true hc
    go_enter Tryz.func124, Tryz.ntmps124
    go_wp2_with (go_at_call 123; refine (within_any _ _ _ _).mono ?_; rintro e w1 ⟨rfl, rfl⟩)
    all_goals go_ret
    all_goals (refine ⟨ret_int ?_, rfl⟩; simp_all)
  · have hd : decide (65 ≤ r ∧ r ≤ 90) = false := decide_eq_false hc
    go_enter Tryz.func124, Tryz.ntmps124
    go_wp2_with (go_at_call 123; refine (within_any _ _ _ _).mono ?_; rintro e w1 ⟨rfl, rfl⟩)
    all_goals go_ret
    all_goals (refine ⟨ret_int ?_, rfl⟩; simp_all)

theorem folded_any (r : Int) (w : World) (h0 : 0 ≤ r) (h1 : r ≤ 1114111) : Calls Tryz.prog 116 #[.int .i32 r] w fun e w' => e = .returned (.int .i32 (foldR r)) ∧ w' = w := by
  by_cases ha : r = 215
  · subst ha
    go_enter Tryz.func116, Tryz.ntmps116
    go_wp2
    go_ret
    exact ⟨rfl, rfl⟩
  by_cases hb : r = 930
  · subst hb
    go_enter Tryz.func116, Tryz.ntmps116
    go_wp2
    go_ret
    exact ⟨rfl, rfl⟩
  by_cases hc : 192 ≤ r ∧ r ≤ 222
  · have hd : decide (192 ≤ r ∧ r ≤ 222) = true := decide_eq_true hc
    have hf : foldR r = r + 32 := by unfold foldR; rw [if_pos (by omega)]
    go_enter Tryz.func116, Tryz.ntmps116
    go_wp2_with (go_at_call 123; refine (within_any _ _ _ _).mono ?_; rintro e w1 ⟨rfl, rfl⟩)
    all_goals go_ret
    all_goals (refine ⟨ret_int ?_, rfl⟩; simp_all)
  have hd : decide (192 ≤ r ∧ r ≤ 222) = false := decide_eq_false hc
  by_cases hc2 : 913 ≤ r ∧ r ≤ 937
  · have hd2 : decide (913 ≤ r ∧ r ≤ 937) = true := decide_eq_true hc2
    have hf : foldR r = r + 32 := by unfold foldR; rw [if_pos (by omega)]
    go_enter Tryz.func116, Tryz.ntmps116
    go_wp2_with (go_at_call 123; refine (within_any _ _ _ _).mono ?_; rintro e w1 ⟨rfl, rfl⟩)
    all_goals go_ret
    all_goals (refine ⟨ret_int ?_, rfl⟩; simp_all)
  have hd2 : decide (913 ≤ r ∧ r ≤ 937) = false := decide_eq_false hc2
  by_cases hc3 : 1040 ≤ r ∧ r ≤ 1071
  · have hd3 : decide (1040 ≤ r ∧ r ≤ 1071) = true := decide_eq_true hc3
    have hf : foldR r = r + 32 := by unfold foldR; rw [if_pos (by omega)]
    go_enter Tryz.func116, Tryz.ntmps116
    go_wp2_with (go_at_call 123; refine (within_any _ _ _ _).mono ?_; rintro e w1 ⟨rfl, rfl⟩)
    all_goals go_ret
    all_goals (refine ⟨ret_int ?_, rfl⟩; simp_all)
  have hd3 : decide (1040 ≤ r ∧ r ≤ 1071) = false := decide_eq_false hc3
  have qa : (r == 215) = false := by simpa using ha
  have qb : (r == 930) = false := by simpa using hb
  have hf : foldR r = small r := by
    unfold foldR small
    by_cases hs : 65 ≤ r ∧ r ≤ 90
    · rw [if_pos hs, if_pos (.inl hs)]
    · rw [if_neg hs, if_neg (by omega)]
  go_enter Tryz.func116, Tryz.ntmps116
  go_wp2_with (first
    | (go_at_call 123; refine (within_any _ _ _ _).mono ?_; rintro e w1 ⟨rfl, rfl⟩)
    | (go_at_call 124; refine (small_any _ _ h0 h1).mono ?_; rintro e w1 ⟨rfl, rfl⟩))
  all_goals go_ret
  all_goals (refine ⟨ret_int ?_, rfl⟩; simp_all)

theorem ofLocal_any (r : Int) (w : World) : Calls Tryz.prog 117 #[.int .i32 r] w fun e w' => e = .returned (.bool (letterB r)) ∧ w' = w := by
  by_cases ha : r = 46
  · subst ha
    go_enter Tryz.func117, Tryz.ntmps117
    go_wp2
    go_ret
    exact ⟨rfl, rfl⟩
  by_cases hb : r = 45
  · subst hb
    go_enter Tryz.func117, Tryz.ntmps117
    go_wp2
    go_ret
    exact ⟨rfl, rfl⟩
  by_cases hc : r = 95
  · subst hc
    go_enter Tryz.func117, Tryz.ntmps117
    go_wp2
    go_ret
    exact ⟨rfl, rfl⟩
  by_cases hd : r = 247
  · subst hd
    go_enter Tryz.func117, Tryz.ntmps117
    go_wp2
    go_ret
    exact ⟨rfl, rfl⟩
  have qa : (r == 46) = false := by simpa using ha
  have qb : (r == 45) = false := by simpa using hb
  have qc : (r == 95) = false := by simpa using hc
  have qd : (r == 247) = false := by simpa using hd
  have hl : letterB r = (labelB r || decide (223 ≤ r ∧ r ≤ 255) || decide (945 ≤ r ∧ r ≤ 969) || decide (1072 ≤ r ∧ r ≤ 1103)) := by
    unfold letterB labelB
    rw [← Bool.decide_or, ← Bool.decide_or, ← Bool.decide_or]
    exact decide_eq_decide.2 (by omega)
  rw [hl]
  clear hl
  generalize hL : labelB r = L
  cases L with
  | true =>
    go_enter Tryz.func117, Tryz.ntmps117
    go_wp2_with (first
      | (go_at_call 125; refine (ofLabel_any _ _).mono ?_; rw [hL]; rintro e w1 ⟨rfl, rfl⟩)
      | (go_at_call 123; refine (within_any _ _ _ _).mono ?_; rintro e w1 ⟨rfl, rfl⟩))
    go_ret
    exact ⟨rfl, rfl⟩
  | false =>
    generalize hA : decide (223 ≤ r ∧ r ≤ 255) = A
    generalize hB : decide (945 ≤ r ∧ r ≤ 969) = B
    generalize hC : decide (1072 ≤ r ∧ r ≤ 1103) = C
    cases A <;> cases B <;> cases C
    all_goals
      go_enter Tryz.func117, Tryz.ntmps117
      go_wp2_with (first
        | (go_at_call 125; refine (ofLabel_any _ _).mono ?_; rw [hL]; rintro e w1 ⟨rfl, rfl⟩)
        | (go_at_call 123; refine (within_any _ _ _ _).mono ?_; (first | rw [hA] | rw [hB] | rw [hC]); rintro e w1 ⟨rfl, rfl⟩))
      go_ret
      exact ⟨rfl, rfl⟩

/-- The value with which a preparing gives up. -/
def gaveUp (n : Int) : List PanicEntry := [{ v := .iface 152 (.agg #[.int .i64 n]), recovered := false }]

theorem giveUp_any (n : Int) (w : World) : Calls Tryz.prog 118 #[.int .i64 n] w fun e w' => e = .panicked (gaveUp n) ∧ w' = w := by
  go_enter Tryz.func118, Tryz.ntmps118
  go_wp2
  exact ⟨rfl, rfl, rfl⟩
end Go.Proofs.YtiplalbicibahaaGreatDoor.Nm

/- What a text's runes are taken by: the three function values, and what eachRune asks of one. -/
namespace Go.Proofs.YtiplalbicibahaaGreatDoor.Nm
open Go.RowKit

/-- Blocks from B on stand as they stood, and so do those below B0. -/
structure Aside (B0 B : Nat) (w w' : World) : Prop where
  below : Below B0 w w'
  size : w'.heap.size = w.heap.size
  above : ∀ k, B ≤ k → w'.heap[k]? = w.heap[k]?

theorem Aside.refl (B0 B : Nat) (w : World) : Aside B0 B w w := ⟨Below.refl _ _, rfl, fun _ _ => rfl⟩

/-- What eachRune asks of the function that takes the runes. -/
structure Taker (k : Nat) (caps : Array Value) (step : Int → Int → Option Int) (B0 B : Nat) (J : Int → World → Prop) : Prop where
  ent : ∀ args w, (callFunc k args).run Tryz.prog w = .ok (.enter k args) w
  call : ∀ st r W, J st W → 0 ≤ r → r ≤ 1114111 → Calls Tryz.prog k (#[.int .i32 r] ++ caps) W fun e W' =>
    (step st r = none ∧ e = .panicked (gaveUp 4) ∧ Below B0 W W') ∨ ∃ r', step st r = some r' ∧ e = .returned (.int .i32 r') ∧ J r' W' ∧ Aside B0 B W W'
  keep : ∀ st W W', J st W → Below B W W' → J st W'
  lim : ∀ st r r', 0 ≤ r → r ≤ 1114111 → step st r = some r' → 0 ≤ r' ∧ r' ≤ 1114200

theorem small_lim (r : Int) (h0 : 0 ≤ r) (h1 : r ≤ 1114111) : 0 ≤ small r ∧ small r ≤ 1114200 := by unfold small; split <;> omega
theorem foldR_lim (r : Int) (h0 : 0 ≤ r) (h1 : r ≤ 1114111) : 0 ≤ foldR r ∧ foldR r ≤ 1114200 := by unfold foldR; split <;> omega
theorem stepL_lim (st r r' : Int) (h0 : 0 ≤ r) (h1 : r ≤ 1114111) (h : stepL st r = some r') : 0 ≤ r' ∧ r' ≤ 1114200 := by
  unfold stepL at h; split at h
  · cases h; exact foldR_lim r h0 h1
  · cases h
theorem stepH_lim (st r r' : Int) (h0 : 0 ≤ r) (h1 : r ≤ 1114111) (h : stepH st r = some r') : 0 ≤ r' ∧ r' ≤ 1114200 := by
  unfold stepH at h; split at h
  · cases h; exact small_lim r h0 h1
  · cases h
theorem stepR_lim (st r r' : Int) (h0 : 0 ≤ r) (h1 : r ≤ 1114111) (h : stepR st r = some r') : 0 ≤ r' ∧ r' ≤ 1114200 := by
  unfold stepR at h; split at h
  · cases h; omega
  · cases h

theorem takeL_any (st r : Int) (w : World) (h0 : 0 ≤ r) (h1 : r ≤ 1114111) : Calls Tryz.prog 115 #[.int .i32 r] w fun e w' =>
    (stepL st r = none ∧ e = .panicked (gaveUp 4) ∧ w' = w) ∨ ∃ r', stepL st r = some r' ∧ e = .returned (.int .i32 r') ∧ w' = w := by
  unfold stepL
  generalize hL : letterB (foldR r) = L
  cases L with
  | true =>
    rw [if_pos rfl]
    go_enter Tryz.func115, Tryz.ntmps115
    go_wp2_with (first
      | (go_at_call 116; refine (folded_any _ _ h0 h1).mono ?_; rintro e w1 ⟨rfl, rfl⟩)
      | (go_at_call 117; refine (ofLocal_any _ _).mono ?_; rw [hL]; rintro e w1 ⟨rfl, rfl⟩))
    go_ret
    exact .inr ⟨_, rfl, rfl, rfl⟩
  | false =>
    rw [if_neg (by simp)]
    go_enter Tryz.func115, Tryz.ntmps115
    go_wp2_with (first
      | (go_at_call 116; refine (folded_any _ _ h0 h1).mono ?_; rintro e w1 ⟨rfl, rfl⟩)
      | (go_at_call 117; refine (ofLocal_any _ _).mono ?_; rw [hL]; rintro e w1 ⟨rfl, rfl⟩)
      | (go_at_call 118; refine (giveUp_any _ _).mono ?_; rintro e w1 ⟨rfl, rfl⟩))
    exact ⟨rfl, .inl ⟨trivial, rfl, rfl⟩⟩

theorem takerL (B : Nat) : Taker 115 #[] stepL B B (fun _ _ => True) :=
  ⟨enters_of Tryz.func115 (by kernel_rfl) rfl,
   fun st r W _ h0 h1 => (takeL_any st r W h0 h1).mono fun _ _ h => by
     rcases h with ⟨a, b, rfl⟩ | ⟨r', a, b, rfl⟩
     · exact .inl ⟨a, b, Below.refl _ _⟩
     · exact .inr ⟨r', a, b, trivial, Aside.refl _ _ _⟩,
   fun _ _ _ _ _ => trivial, stepL_lim⟩
/-- The variable that holds what stood last. -/
def LastAt (B : Nat) (st : Int) (w : World) : Prop := w.heap[B]? = some (.cells #[.int .i32 st] 21 (0, 0))

theorem LastAt.cell {B : Nat} {st : Int} {w : World} (h : LastAt B st w) : w.cell? ⟨B, 0, none⟩ = some (.int .i32 st) := by simp [World.cell?, show w.heap[B]? = _ from h]
theorem LastAt.thaw {B : Nat} {st : Int} {w : World} (h : LastAt B st w) : w.frozen? ⟨B, 0, none⟩ = false := by simp [World.frozen?, show w.heap[B]? = _ from h]
theorem LastAt.put {B : Nat} {st : Int} {w : World} (h : LastAt B st w) (r : Int) : LastAt B r (w.setCell ⟨B, 0, none⟩ (.int .i32 r)) := by
  show (w.setCell ⟨B, 0, none⟩ (.int .i32 r)).heap[B]? = _
  simp [World.setCell, Array.getElem?_modify, show w.heap[B]? = _ from h]
theorem LastAt.aside {B : Nat} {st : Int} {w : World} (_ : LastAt B st w) (r : Int) : Aside B (B + 1) w (w.setCell ⟨B, 0, none⟩ (.int .i32 r)) :=
  ⟨⟨rfl, rfl, rfl, by simp [World.setCell], fun k hk => Below.heap_setCell _ _ _ _ (by show k ≠ B; omega)⟩, by simp [World.setCell], fun k hk => Below.heap_setCell _ _ _ _ (by show k ≠ B; omega)⟩

end Go.Proofs.YtiplalbicibahaaGreatDoor.Nm

/-
  DERIVED: THE SHELF's CONTRACTS AT THIS DUMP, IN PLAIN WORDS (tools/lay-plain.mjs out of 'ShelfSrcNow.lean', which tools/lay-shelf.mjs wrote): THE SAME DECLARATIONS UNDER THE SAME NAMES: 'import', 'namespace', 'open', 'def', 'theorem' AND NOTHING ELSE: no command of the shelf's: FOR A HAND-IN. Each laying: the table of numbers ('.._ren') and one theorem, a field a fact of the dump's own or the kernel's comparison; each contract: ONE APPLICATION.
-/
namespace Go.Proofs
open Go.Shelf
def Tryz.lays242_ren : Go.Shelf.Ren := ⟨fun | 242 => 127 | 278 => 129 | n => n, fun | 37 => 96 | 21 => 21 | 51 => 123 | 4 => 4 | 5 => 5 | 72 => 159 | 46 => 101 | n => n, fun | n => n⟩
theorem Tryz.lays242 : Go.Proofs.Lays.n242 Tryz.prog Tryz.lays242_ren := {
  mixed := by kernel_rfl
  f242 := Tryz.func127.trans (congrArg some (by kernel_rfl))
  f278 := Tryz.func129.trans (congrArg some (by kernel_rfl))
  t4 := Tryz.underlying4
  a4 := Tryz.isAgg4
  z4 := Tryz.sizeOf4
  v4 := Tryz.zeroValue4
  t5 := Tryz.underlying5
  a5 := Tryz.isAgg5
  z5 := Tryz.sizeOf5
  v5 := Tryz.zeroValue5
  t21 := Tryz.underlying21
  a21 := Tryz.isAgg21
  z21 := Tryz.sizeOf21
  v21 := Tryz.zeroValue21
  t37 := Tryz.underlying96
  a37 := Tryz.isAgg96
  z37 := Tryz.sizeOf96
  v37 := Tryz.zeroValue96
  t46 := Tryz.underlying101
  a46 := Tryz.isAgg101
  z46 := Tryz.sizeOf101
  v46 := Tryz.zeroValue101
  t51 := Tryz.underlying123
  a51 := Tryz.isAgg123
  z51 := Tryz.sizeOf123
  v51 := Tryz.zeroValue123 }
def Tryz.lays169_ren : Go.Shelf.Ren := ⟨fun | 169 => 122 | n => n, fun | 70 => 157 | 9 => 9 | 0 => 0 | 72 => 159 | 37 => 96 | 127 => 97 | 3 => 3 | 5 => 5 | n => n, fun | n => n⟩
theorem Tryz.lays169 : Go.Proofs.Lays.n169 Tryz.prog Tryz.lays169_ren := {
  mixed := by kernel_rfl
  f169 := Tryz.func122.trans (congrArg some (by kernel_rfl))
  t0 := Tryz.underlying0
  a0 := Tryz.isAgg0
  z0 := Tryz.sizeOf0
  v0 := Tryz.zeroValue0
  t3 := Tryz.underlying3
  a3 := Tryz.isAgg3
  z3 := Tryz.sizeOf3
  v3 := Tryz.zeroValue3
  t9 := Tryz.underlying9
  a9 := Tryz.isAgg9
  z9 := Tryz.sizeOf9
  v9 := Tryz.zeroValue9
  t37 := Tryz.underlying96
  a37 := Tryz.isAgg96
  z37 := Tryz.sizeOf96
  v37 := Tryz.zeroValue96
  t70 := Tryz.underlying157
  a70 := Tryz.isAgg157
  z70 := Tryz.sizeOf157
  v70 := Tryz.zeroValue157
  t72 := Tryz.underlying159
  a72 := Tryz.isAgg159
  z72 := Tryz.sizeOf159
  v72 := Tryz.zeroValue159
  t127 := Tryz.underlying97
  a127 := Tryz.isAgg97
  z127 := Tryz.sizeOf97
  v127 := Tryz.zeroValue97 }
def Tryz.lays196_ren : Go.Shelf.Ren := ⟨fun | 196 => 57 | 259 => 69 | n => n, fun | 9 => 9 | 4 => 4 | 3 => 3 | 5 => 5 | 12 => 12 | 119 => 105 | 0 => 0 | 46 => 101 | 139 => 108 | 138 => 107 | 53 => 125 | n => n, fun | 3 => 0 | 4 => 1 | n => n⟩
theorem Tryz.lays196 : Go.Proofs.Lays.n196 Tryz.prog Tryz.lays196_ren := {
  mixed := by kernel_rfl
  f196 := Tryz.func57.trans (congrArg some (by kernel_rfl))
  f259 := Tryz.func69.trans (congrArg some (by kernel_rfl))
  t0 := Tryz.underlying0
  a0 := Tryz.isAgg0
  z0 := Tryz.sizeOf0
  v0 := Tryz.zeroValue0
  t3 := Tryz.underlying3
  a3 := Tryz.isAgg3
  z3 := Tryz.sizeOf3
  v3 := Tryz.zeroValue3
  t4 := Tryz.underlying4
  a4 := Tryz.isAgg4
  z4 := Tryz.sizeOf4
  v4 := Tryz.zeroValue4
  t5 := Tryz.underlying5
  a5 := Tryz.isAgg5
  z5 := Tryz.sizeOf5
  v5 := Tryz.zeroValue5
  t9 := Tryz.underlying9
  a9 := Tryz.isAgg9
  z9 := Tryz.sizeOf9
  v9 := Tryz.zeroValue9
  t12 := Tryz.underlying12
  a12 := Tryz.isAgg12
  z12 := Tryz.sizeOf12
  v12 := Tryz.zeroValue12
  t46 := Tryz.underlying101
  a46 := Tryz.isAgg101
  z46 := Tryz.sizeOf101
  v46 := Tryz.zeroValue101
  t53 := Tryz.underlying125
  a53 := Tryz.isAgg125
  z53 := Tryz.sizeOf125
  v53 := Tryz.zeroValue125
  t119 := Tryz.underlying105
  a119 := Tryz.isAgg105
  z119 := Tryz.sizeOf105
  t138 := Tryz.underlying107
  a138 := Tryz.isAgg107
  z138 := Tryz.sizeOf107
  v138 := Tryz.zeroValue107
  t139 := Tryz.underlying108
  a139 := Tryz.isAgg108
  z139 := Tryz.sizeOf108
  v139 := Tryz.zeroValue108
  g3 := by kernel_rfl
  g4 := by kernel_rfl }
def Tryz.lays217_ren : Go.Shelf.Ren := ⟨fun | 217 => 109 | 266 => 119 | n => n, fun | 9 => 9 | 5 => 5 | 3 => 3 | n => n, fun | n => n⟩
theorem Tryz.lays217 : Go.Proofs.Lays.n217 Tryz.prog Tryz.lays217_ren := {
  mixed := by kernel_rfl
  f217 := Tryz.func109.trans (congrArg some (by kernel_rfl))
  f266 := Tryz.func119.trans (congrArg some (by kernel_rfl))
  t3 := Tryz.underlying3
  a3 := Tryz.isAgg3
  z3 := Tryz.sizeOf3
  v3 := Tryz.zeroValue3
  t5 := Tryz.underlying5
  a5 := Tryz.isAgg5
  z5 := Tryz.sizeOf5
  v5 := Tryz.zeroValue5
  t9 := Tryz.underlying9
  a9 := Tryz.isAgg9
  z9 := Tryz.sizeOf9
  v9 := Tryz.zeroValue9 }
def Tryz.laysM316_ren : Go.Shelf.Ren := ⟨fun | 316 => 48 | n => n, fun | 9 => 9 | 3 => 3 | 4 => 4 | 37 => 96 | 0 => 0 | 127 => 97 | 5 => 5 | n => n, fun | n => n⟩
theorem Tryz.laysM316 : Go.Proofs.LaysM.n316 Tryz.prog Tryz.laysM316_ren := {
  mixed := by kernel_rfl
  f316 := Tryz.func48.trans (congrArg some (by kernel_rfl))
  t0 := Tryz.underlying0
  a0 := Tryz.isAgg0
  z0 := Tryz.sizeOf0
  v0 := Tryz.zeroValue0
  t3 := Tryz.underlying3
  a3 := Tryz.isAgg3
  z3 := Tryz.sizeOf3
  v3 := Tryz.zeroValue3
  t4 := Tryz.underlying4
  a4 := Tryz.isAgg4
  z4 := Tryz.sizeOf4
  v4 := Tryz.zeroValue4
  t9 := Tryz.underlying9
  a9 := Tryz.isAgg9
  z9 := Tryz.sizeOf9
  v9 := Tryz.zeroValue9
  t37 := Tryz.underlying96
  a37 := Tryz.isAgg96
  z37 := Tryz.sizeOf96
  v37 := Tryz.zeroValue96
  t127 := Tryz.underlying97
  a127 := Tryz.isAgg97
  z127 := Tryz.sizeOf97
  v127 := Tryz.zeroValue97
  t5 := Tryz.underlying5
  a5 := Tryz.isAgg5
  z5 := Tryz.sizeOf5
  v5 := Tryz.zeroValue5
  i0 := by kernel_rfl
  i3 := by kernel_rfl
  i4 := by kernel_rfl
  i5 := by kernel_rfl
  i9 := by kernel_rfl
  i37 := by kernel_rfl
  i127 := by kernel_rfl }
end Go.Proofs

/- strings.Builder at this program: WriteRune, String; utf8.ValidString: the library's contracts laid, and copyCheck as this translation has it. -/
set_option maxRecDepth 100000
namespace Go.Proofs.YtiplalbicibahaaGreatDoor.Nm
open Go.RowKit Go.Shelf

theorem extra242 : Builder.Extra Tryz.prog Tryz.lays242_ren := {
  sizeBuilder := by kernel_rfl
  liesBuilder := by kernel_rfl
  t5 := Tryz.underlying5
  a5 := Tryz.isAgg5
  z5 := Tryz.sizeOf5
  v5 := Tryz.zeroValue5
  infoByte := by kernel_rfl
  cellsByte := by kernel_rfl
  sizeByte := by kernel_rfl
  neB5 := by decide }
theorem extra169 : Builder.Extra Tryz.prog Tryz.lays169_ren := {
  sizeBuilder := by kernel_rfl
  liesBuilder := by kernel_rfl
  t5 := Tryz.underlying5
  a5 := Tryz.isAgg5
  z5 := Tryz.sizeOf5
  v5 := Tryz.zeroValue5
  infoByte := by kernel_rfl
  cellsByte := by kernel_rfl
  sizeByte := by kernel_rfl
  neB5 := by decide }

theorem bString_any (B b : Nat) (l : List UInt8) (w : World) (h : Lib.IsBuilderF 159 5 B b (Lib.byteCells l) w) (hBw : B ≤ w.heap.size) :
    Calls Tryz.prog 122 #[.pointer (some ⟨b, 0, none⟩)] w fun e w' => e = .returned (.string ⟨l.toArray⟩) ∧ Below B w w' :=
  (Any.Builder_String_any_k Tryz.lays169 extra169 B b l w h hBw).mono fun _ _ h => ⟨h.1, h.2.2.1⟩

theorem validString_any (s : ByteArray) (w : World) (hs : s.size ≤ 9223372036854775807) (hT : Lib.Utf8Tabs 0 1 w) :
    Calls Tryz.prog 57 #[.string s] w fun e w' => e = .returned (.bool (Lib.validD s.data.toList)) ∧ Below w.heap.size w w' := Any.utf8_ValidString Tryz.lays196 s w hs hT

theorem appendRune_any (B : Nat) (v : Value) (n : Nat) (xs : List Value) (r : Int) (hr0 : -2147483648 ≤ r) (hr1 : r ≤ 2147483647) (w : World) (hown : w.ownsRowF B 5 1 v n xs) (hlen : n + 4 ≤ 140737488355328) (hBw : B ≤ w.heap.size) :
    Calls Tryz.prog 127 #[v, .int .i32 r] w fun e w' => ∃ v', e = .returned v' ∧ w'.ownsRowF B 5 1 v' (n + (Lib.runeCells r).length) (xs ++ Lib.runeCells r) ∧ ∃ o, (w.alloc o).grownBy w' v.ownBlock :=
  Any.utf8_AppendRune_own Tryz.lays242 extra242 B v n xs r hr0 hr1 w hown hlen hBw

/-- copyCheck of a builder that no one has written to: its own address is laid in it. -/
theorem copyCheck_new (b : Nat) (w : World) (h0 : w.cell? ⟨b, 0, none⟩ = some (.pointer none)) (hsh : w.shape? b = some (159, 2)) (hfz : w.frozen? ⟨b, 0, none⟩ = false) :
    Calls Tryz.prog 126 #[.pointer (some ⟨b, 0, none⟩)] w fun e w' => e = .returned (.tuple #[]) ∧ w' = w.setCell ⟨b, 0, none⟩ (.pointer (some ⟨b, 0, none⟩)) := by
  obtain ⟨j, hj, hjs⟩ := Option.map_eq_some_iff.1 extra242.sizeBuilder
  go_enter Tryz.func126, Tryz.ntmps126
  go_wp2
  rw [Lib.run_to_unsafe w ⟨b, 0, none⟩ Tryz.underlying157 Tryz.underlying166 hj (by rw [hjs]; decide) hsh (Nat.zero_lt_succ 1)]
  simp only [Result.andThen]
  rw [Oper.upon_value]
  go_wp2
  rw [run_callFunc_extern Tryz.func128 (by kernel_rfl) (by kernel_rfl) (by kernel_rfl) (e := Extern.AbiNoEscape.same) (by kernel_rfl), Lib.run_noEscape]
  simp only [Result.andThen]
  rw [Oper.upon_value]
  go_wp2
  rw [Lib.run_from_unsafe w ⟨b, 0, none⟩ Tryz.underlying166 Tryz.underlying157 hj hsh extra242.liesBuilder]
  simp only [Result.andThen]
  rw [Oper.upon_value]
  go_wp2
  go_end0
  exact ⟨rfl, rfl⟩
theorem copyCheck_old (b : Nat) (w : World) (h0 : w.cell? ⟨b, 0, none⟩ = some (.pointer (some ⟨b, 0, none⟩))) :
    Calls Tryz.prog 126 #[.pointer (some ⟨b, 0, none⟩)] w fun e w' => e = .returned (.tuple #[]) ∧ w' = w := by
  obtain ⟨j, hj, _⟩ := Option.map_eq_some_iff.1 extra242.sizeBuilder
  go_enter Tryz.func126, Tryz.ntmps126
  go_wp2
  rw [Lib.run_neq_ptr_same w _ Tryz.underlying157 hj]
  go_wp2
  go_end0
  exact ⟨rfl, rfl⟩
theorem copyCheck_any (B b : Nat) (bs : List Value) (w : World) (h : Lib.IsBuilderF 159 5 B b bs w) :
    Calls Tryz.prog 126 #[.pointer (some ⟨b, 0, none⟩)] w fun e w' => e = .returned (.tuple #[]) ∧ Lib.BuilderAtF 159 5 B b (.pointer (some ⟨b, 0, none⟩)) bs w' ∧ Below B w w' ∧ Lib.OthersKept 5 (some b) w w' := by
  rcases h with h | h
  · exact (copyCheck_new b w h.cell0 h.shape h.frozen0).mono fun e w' ⟨h1, h2⟩ => by
      subst h2
      exact ⟨h1, h.used _, (Below.refl B w).setCell (p := ⟨b, 0, none⟩) h.1 _, (Lib.OthersKept.refl _ _ w).setCell ⟨b, 0, none⟩ rfl _⟩
  · exact (copyCheck_old b w h.cell0).mono fun e w' ⟨h1, h2⟩ => by
      subst h2
      exact ⟨h1, h, Below.refl B _, Lib.OthersKept.refl _ _ _⟩

set_option maxHeartbeats 4000000 in
set_option maxRecDepth 100000 in
theorem writeRune_any (B b : Nat) (bs : List Value) (r : Int) (hr0 : -2147483648 ≤ r) (hr1 : r ≤ 2147483647) (w : World) (h : Lib.IsBuilderF 159 5 B b bs w) (hlen : bs.length + 4 ≤ 140737488355328) (hBw : B ≤ w.heap.size) :
    Calls Tryz.prog 121 #[.pointer (some ⟨b, 0, none⟩), .int .i32 r] w fun e w' => (∃ n : Int, e = .returned (.tuple #[.int .i64 n, .nilIface])) ∧ Lib.IsBuilderF 159 5 B b (bs ++ Lib.runeCells r) w' ∧ Below B w w' ∧ Lib.OthersKept 5 (some b) w w' := by
  have hk4 := Lib.runeCells_le r
  go_enter Tryz.func121, Tryz.ntmps121
  go_wp2_with (go_at_call 126; refine (copyCheck_any B b bs _ h).mono ?_)
  rintro e w1 ⟨rfl, ⟨hB, v, hbk, hown, hne⟩, hb1, hk1⟩
  have hz1 := hb1.size
  obtain ⟨ao, cap, rfl⟩ : ∃ ao cap, v = .slice ao bs.length cap := by
    rcases hown.2 with ⟨hv, h0⟩ | ⟨g, cap, cur, fz, hv, _⟩
    · exact ⟨none, 0, by rw [hv, h0]⟩
    · exact ⟨_, _, hv⟩
  have c1 : w1.cell? ⟨b, 1, none⟩ = some (.slice ao bs.length cap) := by rw [Lib.cell_of_heap hbk]; rfl
  go_wp2_with (go_at_call 127; refine (appendRune_any B _ bs.length bs r hr0 hr1 _ hown hlen (by omega)).mono ?_)
  rintro e w2 ⟨v', rfl, hown', o, hgrow⟩
  have hlt : b < w1.heap.size := (Array.getElem?_eq_some_iff.1 hbk).1
  have hb2 : w2.heap[b]? = some (.cells #[.pointer (some ⟨b, 0, none⟩), .slice ao bs.length cap] 159 (0, 0)) := by
    rw [hgrow.block b (by simp; omega) (fun e => hne e.symm), Lib.alloc_old w1 _ b hlt]
    exact hbk
  have d1 : w2.cell? ⟨b, 1, none⟩ = some (.slice ao bs.length cap) := by rw [Lib.cell_of_heap hb2]; rfl
  have f1 : w2.frozen? ⟨b, 1, none⟩ = false := Lib.frozen_of_heap hb2 1
  obtain ⟨g, cap', rfl⟩ : ∃ g cap', v' = .slice (some ⟨g, 0, none⟩) (bs.length + (Lib.runeCells r).length) cap' := by
    rcases hown'.2 with ⟨_, h0⟩ | ⟨g, cap', cur, fz, hv, _⟩
    · omega
    · exact ⟨g, cap', hv⟩
  go_wp2
  go_ret2
  refine ⟨⟨_, rfl⟩, Or.inr ?_, ?_, ((hk1.alloc _).grown hgrow (Lib.ownsRowF_kind (hown.alloc _))).setCell ⟨b, 1, none⟩ rfl _⟩
  · exact Lib.BuilderAtF.put (T := 159) (e := 5) hB hb2 (bs' := bs ++ Lib.runeCells r) (by simpa using hown') (by decide)
  · exact ((hb1.alloc (by omega) _).grown hgrow (by simp; omega) (fun k hk => (hown.lt k hk).1)).setCell (p := ⟨b, 1, none⟩) hB _
end Go.Proofs.YtiplalbicibahaaGreatDoor.Nm

/- eachRune: a text made anew out of what is told of its runes. -/
namespace Go.Proofs.YtiplalbicibahaaGreatDoor.Nm
open Go.RowKit

def ofEach : Option (List UInt8 × Int) → Except Nat (List UInt8 × Int)
  | none => .error 4
  | some p => .ok p
def eachX (step : Int → Int → Option Int) (l : List UInt8) : Except Nat (List UInt8 × Int) :=
  if 64 < l.length then .error 5
  else if l = [] ∨ Lib.validD l = false then .error 4
  else ofEach (each step 46 l)

/-- How eachRune ends. -/
def Ended (J : Int → World → Prop) : Except Nat (List UInt8 × Int) → Ending → World → Prop
  | .error n, e, _ => e = .panicked (gaveUp n)
  | .ok (bs, st), e, w => e = .returned (.string ⟨bs.toArray⟩) ∧ J st w

def finX (fin : Int → Bool) : Except Nat (List UInt8 × Int) → List UInt8 × Nat
  | .error n => ([], n)
  | .ok (bs, st) => if fin st = true then (bs, 0) else ([], 4)

theorem prep_eachX (step : Int → Int → Option Int) (fin : Int → Bool) (l : List UInt8) : prep step fin l = finX fin (eachX step l) := by
  unfold prep eachX
  split
  · rfl
  · split
    · rfl
    · cases each step 46 l <;> rfl

theorem bAt_aside {T e : TypeId} {B b B0 B1 : Nat} {p : Value} {bs : List Value} {w w' : World} (hB1 : B1 ≤ B) (h : Lib.BuilderAtF T e B b p bs w) (k : Aside B0 B1 w w') : Lib.BuilderAtF T e B b p bs w' := by
  obtain ⟨hB, v, hb, hown, hne⟩ := h
  refine ⟨hB, v, (k.above b (by omega)).trans hb, ⟨hown.1, ?_⟩, hne⟩
  rcases hown.2 with hn | ⟨g, cap, cur, fz, hv, hbg, hg, rest⟩
  · exact .inl hn
  · exact .inr ⟨g, cap, cur, fz, hv, hbg, (k.above g (by omega)).trans hg, rest⟩
theorem isB_aside {T e : TypeId} {B b B0 B1 : Nat} {bs : List Value} {w w' : World} (hB1 : B1 ≤ B) (h : Lib.IsBuilderF T e B b bs w) (k : Aside B0 B1 w w') : Lib.IsBuilderF T e B b bs w' :=
  h.elim (fun x => .inl (bAt_aside hB1 x k)) (fun x => .inr (bAt_aside hB1 x k))

theorem dec_width (s : ByteArray) (pos : Nat) : 1 ≤ (Utf8.decode s pos).2 := by rw [← Lib.decodeL_drop]; exact Lib.decodeL_width _
theorem dec_rune (s : ByteArray) (pos : Nat) : (Utf8.decode s pos).1 ≤ 1114111 := by rw [← Lib.decodeL_drop]; exact Lib.decodeL_rune _

set_option maxHeartbeats 4000000 in
set_option maxRecDepth 1000000 in
theorem each_any (k : Nat) (caps : Array Value) (step : Int → Int → Option Int) (B0 : Nat) (J : Int → World → Prop) (s : ByteArray) (w : World)
    (hs : s.size ≤ 9223372036854775807) (hB : B0 ≤ w.heap.size) (hK : Taker k caps step B0 w.heap.size J) (h46 : J 46 w) (hT : Lib.Utf8Tabs 0 1 w) :
    Calls Tryz.prog 114 #[.string s, .func (.func k) #[] caps] w fun e w' => Ended J (eachX step s.data.toList) e w' ∧ Below B0 w w' := by
  have hlen : s.data.toList.length = s.size := by simp
  unfold eachX
  rw [hlen]
  by_cases h64 : 64 < s.size
  · rw [if_pos h64]
    have h64' : (64 : Int) < (s.size : Int) := by omega
    go_enter Tryz.func114, Tryz.ntmps114
    go_wp2_with (go_at_call 118; refine (giveUp_any _ _).mono ?_; rintro e w1 ⟨rfl, rfl⟩)
    exact ⟨rfl, rfl, Below.refl _ _⟩
  rw [if_neg h64]
  have h64' : ¬ (64 : Int) < (s.size : Int) := by omega
  by_cases h0 : s.data.toList = []
  · rw [if_pos (.inl h0)]
    have hemp : s.toList.isEmpty = true := by rw [Lib.toList_data, h0]; rfl
    go_enter Tryz.func114, Tryz.ntmps114
    go_wp2_with (go_at_call 118; refine (giveUp_any _ _).mono ?_; rintro e w1 ⟨rfl, rfl⟩)
    exact ⟨rfl, rfl, Below.refl _ _⟩
  have hemp : s.toList.isEmpty = false := by
    rw [Lib.toList_data]
    cases h : s.data.toList with
    | nil => exact absurd h h0
    | cons b t => rfl
  have cV := validString_any s w hs hT
  generalize hV : Lib.validD s.data.toList = V at cV ⊢
  cases V with
  | false =>
    rw [if_pos (.inr rfl)]
    go_enter Tryz.func114, Tryz.ntmps114
    go_wp2_with (first
      | (go_at_call 57; refine cV.mono ?_; rintro e w0 ⟨rfl, hb0⟩)
      | (go_at_call 118; refine (giveUp_any _ _).mono ?_; rintro e w1 ⟨rfl, rfl⟩))
    exact ⟨rfl, rfl, hb0.mono hB⟩
  | true =>
    rw [if_neg (by simp [h0])]
    go_enter Tryz.func114, Tryz.ntmps114
    go_wp2_with (go_at_call 57; refine cV.mono ?_; rintro e w0 ⟨rfl, hb0⟩)
    have hz0 := hb0.size
    go_loopw [] (fun wr => ∃ (pos : Nat) (st : Int) (acc : List UInt8), Lib.IsBuilderF 159 5 w0.heap.size w0.heap.size (Lib.byteCells acc) wr ∧ wr.heap[w0.heap.size + 1]? = some (.stringIter s pos) ∧ Below B0 w wr ∧ J st wr ∧ acc.length ≤ 4 * pos ∧
      each step 46 s.data.toList = (match each step st (s.data.toList.drop pos) with | none => none | some (bs, st') => some (acc ++ bs, st'))) (fun wr => s.size - wr.iterPos (w0.heap.size + 1))
    case atStart =>
      refine ⟨0, 46, [], (Lib.IsBuilderF.of (Lib.fresh_isBuilder 159 5 w0)).alloc _, ?_, (((hb0.mono hB).alloc (by omega) _).alloc (by simp; omega) _), ?_, by simp, ?_⟩
      · have := World.iter_heap (w0.alloc (.cells #[.pointer none, .slice none 0 0] 159)) s 0
        simpa using this
      · exact hK.keep _ _ _ h46 ((hb0.alloc hz0 _).alloc (by simp; omega) _)
      · rw [List.drop_zero]
        cases each step 46 s.data.toList with
        | none => rfl
        | some p => rfl
    case round =>
      obtain ⟨pos, st, acc, hI, hit, hbw, hJ, hal, hea⟩ := hrel
      have hsz : w0.heap.size + 1 < wr.heap.size := (Array.getElem?_eq_some_iff.1 hit).1
      by_cases hp : pos < s.size
      · have hnx : ∀ ty, (Instr.next (.pointer (some ⟨w0.heap.size + 1, 0, none⟩)) true ty).run Tryz.prog wr = _ := fun ty => Lib.run_next_any_at wr (w0.heap.size + 1) s pos ty hit hp
        have hwd := dec_width s pos
        have hru := dec_rune s pos
        have hne : s.data.toList.drop pos ≠ [] := by
          intro h
          have := congrArg List.length h
          rw [List.length_drop, hlen] at this
          simp at this; omega
        rw [each_step step st _ hne, Lib.decodeL_drop, List.drop_drop] at hea
        have hI2 := hI.iterAt hit (pos + (Utf8.decode s pos).2)
        have hit2 := Lib.iterAt_heap wr (w0.heap.size + 1) s pos (pos + (Utf8.decode s pos).2) hit
        have hbw2 := Lib.below_iterAt hbw (k := w0.heap.size + 1) (by omega) s (pos + (Utf8.decode s pos).2)
        have hJ2 := hK.keep _ _ _ hJ (Lib.below_iterAt (Below.refl w.heap.size wr) (k := w0.heap.size + 1) (by omega) s (pos + (Utf8.decode s pos).2))
        have cC := hK.call st ((Utf8.decode s pos).1 : Int) _ hJ2 (by omega) (by omega)
        have eK := hK.ent
        go_wp2_with (go_at_fn k; refine cC.mono ?_)
        rintro e W1 (⟨hst, rfl, hb1⟩ | ⟨r', hst, rfl, hJ1, hA1⟩)
        · rw [hst] at hea
          exact ⟨rfl, by rw [hea]; rfl, hbw2.trans hb1⟩
        · rw [hst] at hea
          have hlim := hK.lim st _ r' (by omega) (by omega) hst
          have hI3 := isB_aside hz0 hI2 hA1
          have hit3 := (hA1.above (w0.heap.size + 1) (by omega)).trans hit2
          have hz3 := hA1.size
          rw [Lib.iterAt_size] at hz3
          go_wp2_with (go_at_call 121; refine (writeRune_any w0.heap.size w0.heap.size _ r' (by omega) (by omega) _ hI3 (by rw [Lib.byteCells_length]; omega) (by omega)).mono ?_)
          rintro e W2 ⟨⟨n, rfl⟩, hI4, hb4, hk4⟩
          go_wp2
          go_roundw
          case rel =>
            have hl4 := Lib.runeCells_le r'
            rw [Lib.runeCells_length] at hl4
            refine ⟨pos + (Utf8.decode s pos).2, r', acc ++ Lib.encodeRune r', ?_, hk4.iter hit3 (by omega), (hbw2.trans hA1.below).trans (hb4.mono (by omega)), hK.keep _ _ _ hJ1 (hb4.mono hz0), by simp; omega, ?_⟩
            · rw [Lib.byteCells_append, Lib.byteCells_encodeRune]; exact hI4
            · rw [hea]
              cases each step r' (s.data.toList.drop (pos + (Utf8.decode s pos).2)) with
              | none => rfl
              | some p => simp
          case measure =>
            simp only [World.iterPos, hk4.iter hit3 (by omega), hit]
            omega
      · have hnx : ∀ ty, (Instr.next (.pointer (some ⟨w0.heap.size + 1, 0, none⟩)) true ty).run Tryz.prog wr = _ := fun ty => Lib.run_next_end_at wr (w0.heap.size + 1) s pos ty hit hp
        rw [List.drop_of_length_le (by rw [hlen]; omega), each_nil] at hea
        simp only [List.append_nil] at hea
        go_wp2_with (go_at_call 122; refine (bString_any w0.heap.size w0.heap.size acc _ hI (by omega)).mono ?_)
        rintro e W1 ⟨rfl, hb1⟩
        go_wp2
        go_ret
        rw [hea]
        exact ⟨⟨rfl, hK.keep _ _ _ hJ (hb1.mono hz0)⟩, hbw.trans (hb1.mono (by omega))⟩
end Go.Proofs.YtiplalbicibahaaGreatDoor.Nm

/- local, host, resource: what each makes of a text, or how it gives up. -/
namespace Go.Proofs.YtiplalbicibahaaGreatDoor.Nm
open Go.RowKit

/-- A text that was prepared, or the error's number with which it was given up. -/
def Gave (p : List UInt8 × Nat) (e : Ending) : Prop := (p.2 = 0 ∧ e = .returned (.string ⟨p.1.toArray⟩)) ∨ (p.2 ≠ 0 ∧ e = .panicked (gaveUp p.2))

theorem tabs_below {w w' : World} (hT : Lib.Utf8Tabs 0 1 w) (hb : Below w.heap.size w w') : Lib.Utf8Tabs 0 1 w' :=
  ⟨fun c hc => (Below.cell hb (World.block_lt_of_cell? w _ (hT.1 c hc))).trans (hT.1 c hc),
   fun i hi => ⟨(Below.cell hb (World.block_lt_of_cell? w _ (hT.2 i hi).1)).trans (hT.2 i hi).1, (Below.cell hb (World.block_lt_of_cell? w _ (hT.2 i hi).2)).trans (hT.2 i hi).2⟩⟩

theorem eachX_num (step : Int → Int → Option Int) (l : List UInt8) (n : Nat) (h : eachX step l = .error n) : n ≠ 0 := by
  unfold eachX at h
  split at h
  · cases h; omega
  · split at h
    · cases h; omega
    · cases he : each step 46 l with
      | none => rw [he] at h; cases h; omega
      | some p => rw [he] at h; cases h

theorem inLocal_any (s : ByteArray) (w : World) (hs : s.size ≤ 9223372036854775807) (hT : Lib.Utf8Tabs 0 1 w) :
    Calls Tryz.prog 108 #[.string s] w fun e w' => Gave (localN s.data.toList) e ∧ Below w.heap.size w w' := by
  have cE := each_any 115 #[] stepL w.heap.size (fun _ _ => True) s w hs (Nat.le_refl _) (takerL _) trivial hT
  rw [localN, prep_eachX]
  generalize hX : eachX stepL s.data.toList = X at cE ⊢
  cases X with
  | error n =>
    have hn := eachX_num _ _ _ hX
    go_enter Tryz.func108, Tryz.ntmps108
    go_wp2_with (go_at_call 114; refine cE.mono ?_; rintro e w1 ⟨rfl, hb⟩)
    exact ⟨rfl, .inr ⟨hn, rfl⟩, hb⟩
  | ok p =>
    obtain ⟨bs, st⟩ := p
    go_enter Tryz.func108, Tryz.ntmps108
    go_wp2_with (go_at_call 114; refine cE.mono ?_; rintro e w1 ⟨⟨rfl, _⟩, hb⟩)
    go_ret
    exact ⟨.inl ⟨rfl, rfl⟩, hb⟩

theorem lastAt_new (w : World) : LastAt w.heap.size 46 (w.alloc (.cells #[.int .i32 46] 21)) := by
  show (w.heap.push (.cells #[.int .i32 46] 21))[w.heap.size]? = _
  simp

end Go.Proofs.YtiplalbicibahaaGreatDoor.Nm

/- begun: a preparing, and the error with which it gave up. -/
namespace Go.Proofs.YtiplalbicibahaaGreatDoor.Nm
open Go.RowKit

theorem catchS_panicking (p : Addr) (x n : Int) (older : List PanicEntry) (w : World) (hc : w.cell? p = some (.int .i64 x)) (hz : w.frozen? p = false) :
    CallsD Tryz.prog 113 #[.pointer (some p)] (.panicking ({ v := .iface 152 (.agg #[.int .i64 n]), recovered := false } :: older)) w fun e u' w' =>
      e = .returned (.tuple #[]) ∧ u' = .panicking ({ v := .iface 152 (.agg #[.int .i64 n]), recovered := true } :: older) ∧ w' = w.setCell p (.int .i64 n) := by
  refine callsD_of_wpS Tryz.func113 rfl fun c₀ cs hu => ?_
  apply wpS_seq
  apply wpS_region
  simp [wpOpsS, go_sem, recoverD, hu, Tryz.ntmps113, Exit.thenS]
  refine wpS_of_wp ?_
  rw [show #[Value.pointer (some p)] ++ ((Array.replicate 7 undef).setIfInBounds 1 (Value.iface 152 (Value.agg #[Value.int IntKind.i64 n]))).setIfInBounds 0 (Value.iface 152 (Value.agg #[Value.int IntKind.i64 n])) = #[Value.pointer (some p), Value.iface 152 (Value.agg #[Value.int IntKind.i64 n]), Value.iface 152 (Value.agg #[Value.int IntKind.i64 n]), undef, undef, undef, undef, undef] from rfl]
  have hta : (Instr.typeAssert (Value.iface 152 (Value.agg #[Value.int IntKind.i64 n])) 20 152 false).run Tryz.prog w = .ok (Value.agg #[Value.int IntKind.i64 n]) w := by
    simp [Instr.typeAssert, go_sem]
  have hfd : (Instr.field 152 (Value.agg #[Value.int IntKind.i64 n]) 0).run Tryz.prog w = .ok (Value.int IntKind.i64 n) w := by
    simp [Instr.field, go_sem, asAgg]
  go_wp2
  simp [bodyPostS, results, Tryz.results113]
theorem catchS_idle (p : Addr) (w : World) :
    CallsD Tryz.prog 113 #[.pointer (some p)] .returning w fun e u' w' => e = .returned (.tuple #[]) ∧ u' = .returning ∧ w' = w := by
  refine callsD_of_wpS Tryz.func113 rfl fun c₀ cs hu => ?_
  apply wpS_seq
  apply wpS_region
  simp [wpOpsS, go_sem, recoverD, hu, Tryz.ntmps113, Exit.thenS]
  refine wpS_of_wp ?_
  rw [show #[Value.pointer (some p)] ++ ((Array.replicate 7 undef).setIfInBounds 1 Value.nilIface).setIfInBounds 0 Value.nilIface = #[Value.pointer (some p), Value.nilIface, Value.nilIface, undef, undef, undef, undef, undef] from rfl]
  go_wp2
  cases c₀
  simp_all [bodyPostS, results, Tryz.results113]

/-- What begun hands back of a text. -/
def Told (p : List UInt8 × Nat) : Value := .tuple #[.string ⟨p.1.toArray⟩, .int .i64 p.2]

theorem cell_one {w : World} {B : Nat} {v : Value} {t : TypeId} (h : w.heap[B]? = some (.cells #[v] t (0, 0))) : w.cell? ⟨B, 0, none⟩ = some v := by simp [World.cell?, h]
theorem thaw_one {w : World} {B : Nat} {v : Value} {t : TypeId} (h : w.heap[B]? = some (.cells #[v] t (0, 0))) : w.frozen? ⟨B, 0, none⟩ = false := by simp [World.frozen?, h]

theorem begunS_any (k : Nat) (caps : Array Value) (p : List UInt8 × Nat) (w : World) (hent : ∀ args w, (callFunc k args).run Tryz.prog w = .ok (.enter k args) w) (hp : p.2 = 0 ∨ p.1 = [])
    (hc : Calls Tryz.prog k caps (w.alloc (.cells #[.int .i64 0] 24)) fun e w' => Gave p e ∧ Below (w.heap.size + 1) (w.alloc (.cells #[.int .i64 0] 24)) w') :
    Calls Tryz.prog 106 #[.func (.func k) #[] caps] w fun e w' => e = .returned (Told p) ∧ Below w.heap.size w w' := by
  have hmf : ∀ (fn : Fn) (first cap : Array Value) (w : World), (Instr.makeFunc fn first cap).run Tryz.prog w = .ok (.func fn first cap) w := fun _ _ _ _ => rfl
  have hb0 : Below w.heap.size w (w.alloc (.cells #[.int .i64 0] 24)) := (Below.refl _ _).alloc (Nat.le_refl _) _
  have hcell : ∀ w', Below (w.heap.size + 1) (w.alloc (.cells #[.int .i64 0] 24)) w' → w'.heap[w.heap.size]? = some (.cells #[.int .i64 0] 24 (0, 0)) := fun w' hb => by
    rw [hb.block w.heap.size (by omega)]
    show (w.heap.push (.cells #[.int .i64 0] 24))[w.heap.size]? = _
    simp
  obtain ⟨l, n⟩ := p
  by_cases h0 : n = 0
  · subst h0
    have hc' := hc.mono (fun e w' h => And.intro (h.1.elim (fun k => k.2) (fun k => absurd rfl k.1)) h.2 : ∀ e w', _ → (e = .returned (.string ⟨l.toArray⟩) ∧ _))
    clear hc
    go_enter_defers Tryz.func106, Tryz.ntmps106
    go_wp2_with (go_at_fn k; refine hc'.mono ?_; rintro e w1 ⟨rfl, hb⟩; have hcl := cell_one (hcell w1 hb); have hfz := thaw_one (hcell w1 hb))
    refine leaves_cons (f := 113) (args := #[.pointer (some ⟨w.heap.size, 0, none⟩)]) (by simp) (by simp [go_sem]) ?_
    refine (catchS_idle ⟨w.heap.size, 0, none⟩ _).mono ?_
    rintro e u' w2 ⟨rfl, rfl, rfl⟩
    have hbl : Below w.heap.size w (w1.setCell ⟨w.heap.size, 0, none⟩ (.int .i64 0)) := (hb0.trans (hb.mono (by omega))).setCell (p := ⟨w.heap.size, 0, none⟩) (Nat.le_refl _) _
    simp [Leaves, settle, results, Tryz.results106, go_sem, hcl, Told]
    exact hbl
  · have hl : l = [] := hp.elim (fun h => absurd h h0) id
    subst hl
    have hc' := hc.mono (fun e w' h => And.intro (h.1.elim (fun k => absurd k.1 h0) (fun k => k.2)) h.2 : ∀ e w', _ → (e = .panicked (gaveUp n) ∧ _))
    clear hc
    go_enter_defers Tryz.func106, Tryz.ntmps106
    go_wp2_with (go_at_fn k; refine hc'.mono ?_; rintro e w1 ⟨rfl, hb⟩; have hcl := cell_one (hcell w1 hb); have hfz := thaw_one (hcell w1 hb))
    refine leaves_cons (f := 113) (args := #[.pointer (some ⟨w.heap.size, 0, none⟩)]) (by simp) (by simp [go_sem]) ?_
    refine (catchS_panicking ⟨w.heap.size, 0, none⟩ 0 n [] _ hcl hfz).mono ?_
    rintro e u' w2 ⟨rfl, rfl, rfl⟩
    have hbl : Below w.heap.size w (w1.setCell ⟨w.heap.size, 0, none⟩ (.int .i64 n)) := (hb0.trans (hb.mono (by omega))).setCell (p := ⟨w.heap.size, 0, none⟩) (Nat.le_refl _) _
    simp [Leaves, settle, results, Tryz.results106, go_sem, hcl, Told]
    exact hbl
end Go.Proofs.YtiplalbicibahaaGreatDoor.Nm

/- Local, Host, Resource: a text prepared, and the error's number. -/
namespace Go.Proofs.YtiplalbicibahaaGreatDoor.Nm
open Go.RowKit

theorem cell_new (w : World) (v : Value) (t : TypeId) : (w.alloc (.cells #[v] t)).cell? ⟨w.heap.size, 0, none⟩ = some v := by
  have h : (w.alloc (.cells #[v] t)).heap[w.heap.size]? = some (.cells #[v] t (0, 0)) := by
    show (w.heap.push (.cells #[v] t))[w.heap.size]? = _
    simp
  exact cell_one h
theorem cell_newer (w : World) (v : Value) (t : TypeId) (o : Obj) : ((w.alloc (.cells #[v] t)).alloc o).cell? ⟨w.heap.size, 0, none⟩ = some v := by
  rw [World.cell?_alloc_lt _ _ _ (by simp)]; exact cell_new w v t
theorem below_new (w : World) (o : Obj) : Below w.heap.size w (w.alloc o) := (Below.refl _ _).alloc (Nat.le_refl _) _

theorem cloLocal_any (q : Addr) (s : ByteArray) (w : World) (hc : w.cell? q = some (.string s)) (hs : s.size ≤ 9223372036854775807) (hT : Lib.Utf8Tabs 0 1 w) :
    Calls Tryz.prog 107 #[.pointer (some q)] w fun e w' => Gave (localN s.data.toList) e ∧ Below w.heap.size w w' := by
  have cI := inLocal_any s w hs hT
  generalize localN s.data.toList = p at cI ⊢
  obtain ⟨l, n⟩ := p
  by_cases h0 : n = 0
  · subst h0
    have cI' := cI.mono (fun e w' h => And.intro (h.1.elim (fun k => k.2) (fun k => absurd rfl k.1)) h.2 : ∀ e w', _ → (e = .returned (.string ⟨l.toArray⟩) ∧ _))
    clear cI
    go_enter Tryz.func107, Tryz.ntmps107
    go_wp2_with (go_at_call 108; refine cI'.mono ?_; rintro e w1 ⟨rfl, hb⟩)
    go_ret
    exact ⟨.inl ⟨rfl, rfl⟩, hb⟩
  · have cI' := cI.mono (fun e w' h => And.intro (h.1.elim (fun k => absurd k.1 h0) (fun k => k.2)) h.2 : ∀ e w', _ → (e = .panicked (gaveUp n) ∧ _))
    clear cI
    go_enter Tryz.func107, Tryz.ntmps107
    go_wp2_with (go_at_call 108; refine cI'.mono ?_; rintro e w1 ⟨rfl, hb⟩)
    exact ⟨rfl, .inr ⟨h0, rfl⟩, hb⟩

theorem local_any (s : ByteArray) (w : World) (hs : s.size ≤ 9223372036854775807) (hT : Lib.Utf8Tabs 0 1 w) :
    Calls Tryz.prog 104 #[.string s] w fun e w' => e = .returned (Told (localN s.data.toList)) ∧ Below w.heap.size w w' := by
  have hmf : ∀ (fn : Fn) (first cap : Array Value) (w : World), (Instr.makeFunc fn first cap).run Tryz.prog w = .ok (.func fn first cap) w := fun _ _ _ _ => rfl
  have hb1 : Below w.heap.size w ((w.alloc (.cells #[.string s] 9)).alloc (.cells #[.int .i64 0] 24)) := (below_new w _).alloc (by simp) _
  have cB := begunS_any 107 #[.pointer (some ⟨w.heap.size, 0, none⟩)] (localN s.data.toList) (w.alloc (.cells #[.string s] 9)) (enters_of Tryz.func107 (by kernel_rfl) rfl) ((prep_cases _ _ _).elim .inl (fun h => .inr h.1))
    ((cloLocal_any ⟨w.heap.size, 0, none⟩ s _ (cell_newer w _ _ _) hs (tabs_below hT hb1)).mono (fun e w' h => ⟨h.1, by have := h.2; simpa using this⟩))
  generalize localN s.data.toList = p at cB ⊢
  unfold Told at cB ⊢
  go_enter Tryz.func104, Tryz.ntmps104
  go_wp2_with (go_at_call 106; refine cB.mono ?_; rintro e w1 ⟨rfl, hb⟩)
  go_ret2
  exact ⟨rfl, (below_new w _).trans (hb.mono (by simp))⟩

end Go.Proofs.YtiplalbicibahaaGreatDoor.Nm

/- strings.Cut, at one byte. -/
namespace Go.Proofs.YtiplalbicibahaaGreatDoor.Nm
open Go.RowKit Go.Shelf

theorem indexByte_any (s : ByteArray) (c : Int) (w : World) : Calls Tryz.prog 109 #[.string s, .int .u8 c] w fun e w' => e = .returned (.int .i64 (Lib.indexByte s.data.toList c.toNat.toUInt8)) ∧ w' = w :=
  Any.stringslite_IndexByte Tryz.lays217 s c w

theorem index_any (s t : ByteArray) (c : UInt8) (ht : t = ⟨#[c]⟩) (w : World) : Calls Tryz.prog 105 #[.string s, .string t] w fun e w' => e = .returned (.int .i64 (Lib.indexByte s.data.toList c)) ∧ w' = w := by
  have hz : (t.size : Int) = 1 := by rw [ht]; rfl
  have hz0 : ((1 : Int) == 0) = false := rfl
  have hix : ∀ w, (Instr.index 9 (.string t) (.int .i64 0)).run Tryz.prog w = .ok (.int .u8 c.toNat) w := fun w => by
    rw [run_index_string w 9 t .i64 0 Tryz.underlying9, dif_pos ⟨by omega, by omega⟩]
    subst ht
    rfl
  have hcc : ((c.toNat : Int)).toNat.toUInt8 = c := by simp
  have cI := indexByte_any s c.toNat w
  rw [hcc] at cI
  have hlist : ∀ a b : ByteArray, a.toList = b.toList → a = b := fun a b h => by
    rw [Lib.toList_data, Lib.toList_data] at h
    cases a; cases b
    exact congrArg ByteArray.mk (Array.toList_inj.1 h)
  by_cases hst : t.toList = s.toList
  · have hb : (t.toList == s.toList) = true := by rw [hst]; exact beq_self_eq_true _
    have hI : Lib.indexByte s.data.toList c = 0 := by rw [← hlist t s hst, ht]; simp [Lib.indexByte]
    rw [hI]
    clear ht hst hlist
    go_enter Tryz.func105, Tryz.ntmps105
    go_wp2
    go_ret
    exact ⟨rfl, rfl⟩
  · have hb : (t.toList == s.toList) = false := by simpa using hst
    clear ht hst hlist
    go_enter Tryz.func105, Tryz.ntmps105
    go_wp2_with (go_at_call 109; refine cI.mono ?_; rintro e w1 ⟨rfl, rfl⟩)
    go_ret
    exact ⟨rfl, rfl⟩

def cutV (c : UInt8) (l : List UInt8) : Value := .tuple #[.string ⟨(cutA c l).toArray⟩, .string ⟨(cutZ c l).toArray⟩, .bool (hasB c l)]

theorem lcut_any (s t : ByteArray) (c : UInt8) (ht : t = ⟨#[c]⟩) (w : World) (hs : s.size ≤ 9223372036854775807) : Calls Tryz.prog 103 #[.string s, .string t] w fun e w' => e = .returned (cutV c s.data.toList) ∧ ∃ q, w' = w.drewN q := by
  have hz : (t.size : Int) = 1 := by rw [ht]; rfl
  have cI := index_any s t c ht w
  clear ht
  rw [indexByte_ix] at cI
  have hle := ix_le c s.data.toList
  have hlen : s.data.toList.length = s.size := by simp
  by_cases h : ix c s.data.toList < s.data.toList.length
  · rw [if_pos h] at cI
    obtain ⟨i, hi⟩ : ∃ i, ix c s.data.toList = i := ⟨_, rfl⟩
    rw [hi] at cI h hle
    have e1 : (⟨(cutA c s.data.toList).toArray⟩ : ByteArray) = s.extract 0 i := by rw [cutA, hi, Lib.extract_eq]; simp
    have e2 : (⟨(cutZ c s.data.toList).toArray⟩ : ByteArray) = s.extract (i + 1) s.size := by
      rw [cutZ, hi, Lib.extract_eq, List.take_of_length_le (by rw [List.length_drop, ← hlen]; exact Nat.le_refl _)]
    have e3 : hasB c s.data.toList = true := by rw [hasB, hi]; exact decide_eq_true h
    have c1 : (0 : Int) ≤ (i : Int) := by omega
    have c2 : (i : Int) ≤ (s.size : Int) := by omega
    have c3 : (0 : Int) ≤ (i : Int) + 1 := by omega
    have c4 : (i : Int) + 1 ≤ (s.size : Int) := by omega
    rw [cutV, e1, e2, e3]
    clear hi e1 e2 e3 hle h hlen
    go_enter Tryz.func103, Tryz.ntmps103
    go_wp2_with (go_at_call 105; refine cI.mono ?_; rintro e w1 ⟨rfl, rfl⟩)
    go_region
    all_goals (try go_wp2)
    all_goals go_ret3
    all_goals exact ⟨rfl, 1, rfl⟩
  · rw [if_neg h] at cI
    have hi : ix c s.data.toList = s.data.toList.length := by omega
    have e1 : (⟨(cutA c s.data.toList).toArray⟩ : ByteArray) = s := by rw [cutA, hi, List.take_length]
    have e2 : (⟨(cutZ c s.data.toList).toArray⟩ : ByteArray) = ⟨#[]⟩ := by rw [cutZ, hi, List.drop_of_length_le (Nat.le_succ _)]
    have e3 : hasB c s.data.toList = false := by rw [hasB]; exact decide_eq_false h
    rw [cutV, e1, e2, e3]
    clear hi e1 e2 e3 hle h hlen
    go_enter Tryz.func103, Tryz.ntmps103
    go_wp2_with (go_at_call 105; refine cI.mono ?_; rintro e w1 ⟨rfl, rfl⟩)
    go_ret3
    exact ⟨rfl, 0, rfl⟩

theorem cut_any (s t : ByteArray) (c : UInt8) (ht : t = ⟨#[c]⟩) (w : World) (hs : s.size ≤ 9223372036854775807) : Calls Tryz.prog 100 #[.string s, .string t] w fun e w' => e = .returned (cutV c s.data.toList) ∧ ∃ q, w' = w.drewN q := by
  have cI := lcut_any s t c ht w hs
  unfold cutV at cI ⊢
  clear ht
  generalize cutA c s.data.toList = A at cI ⊢
  generalize cutZ c s.data.toList = Z at cI ⊢
  generalize hasB c s.data.toList = H at cI ⊢
  go_enter Tryz.func100, Tryz.ntmps100
  go_wp2_with (go_at_call 103; refine cI.mono ?_; rintro e w1 ⟨rfl, q, rfl⟩)
  go_ret3
  exact ⟨rfl, q, rfl⟩
end Go.Proofs.YtiplalbicibahaaGreatDoor.Nm

/- privacy: the reader of a rule; Parse. -/
set_option maxRecDepth 100000
namespace Go.Proofs.YtiplalbicibahaaGreatDoor
open Go.RowKit Go.Joins

abbrev By := List UInt8
def ba (l : By) : ByteArray := ⟨l.toArray⟩
theorem ba_list (l : By) : (ba l).data.toList = l := by simp [ba]
theorem ba_back (s : ByteArray) : ba s.data.toList = s := by cases s; simp [ba]
theorem ba_size (l : By) : (ba l).size = l.length := by simp [ba, ByteArray.size]
theorem ba_eq (l m : By) : ((ba l).toList == m) = (l == m) := by rw [Lib.toList_data, ba_list]

def wAllow : By := [97, 108, 108, 111, 119]
def wDeny : By := [100, 101, 110, 121]
def wIn : By := [105, 110]
def wOut : By := [111, 117, 116]
def wBoth : By := [98, 111, 116, 104]
def wAll : By := [97, 108, 108]
def wJid : By := [106, 105, 100]
def wGroup : By := [103, 114, 111, 117, 112]
def wSub : By := [115, 117, 98]
def wNone : By := [110, 111, 110, 101]
def wTo : By := [116, 111]
def wFrom : By := [102, 114, 111, 109]

/-! ### what is read, by definition -/
/-- A rule. -/
structure Rul where
  al : Bool
  i : Bool
  o : Bool
  k : By
  v : By
def r0 : Rul := ⟨false, false, false, [], []⟩
def rc (r : Rul) : Array Value := #[.bool r.al, .bool r.i, .bool r.o, .string (ba r.k), .string (ba r.v)]
def rv (r : Rul) : Value := .agg (rc r)

def nameE (l : By) : Nat := if 64 < l.length then 5 else if l = [] ∨ Lib.validD l = false then 4 else 0
def isSubB (l : By) : Bool := l == wNone || (l == wTo || (l == wFrom || l == wBoth))
def verdictR (l : By) : Bool × By × Nat :=
  if Nm.hasB 32 l = true then
    if (Nm.cutA 32 l == wAllow || Nm.cutA 32 l == wDeny) = true then (Nm.cutA 32 l == wAllow, Nm.cutZ 32 l, 0) else (false, [], 2)
  else (false, [], 2)
def waysR (l : By) : Bool × Bool × By × Nat :=
  if Nm.hasB 32 l = true then
    if ((Nm.cutA 32 l == wIn || Nm.cutA 32 l == wBoth) || (Nm.cutA 32 l == wOut || Nm.cutA 32 l == wBoth)) = true then (Nm.cutA 32 l == wIn || Nm.cutA 32 l == wBoth, Nm.cutA 32 l == wOut || Nm.cutA 32 l == wBoth, Nm.cutZ 32 l, 0) else (false, false, [], 2)
  else (false, false, [], 2)
def valueR (k l : By) : By × Nat :=
  if (k == wJid) = true then Nm.localN l
  else if (k == wGroup) = true then (if nameE l = 0 then (l, 0) else ([], nameE l))
  else if (k == wSub && isSubB l) = true then (l, 0) else ([], 2)
def whomR (l : By) : By × By × Nat :=
  if (l == wAll) = true then (wAll, [], 0)
  else if Nm.hasB 32 l = true then (if (valueR (Nm.cutA 32 l) (Nm.cutZ 32 l)).2 = 0 then (Nm.cutA 32 l, (valueR (Nm.cutA 32 l) (Nm.cutZ 32 l)).1, 0) else ([], [], (valueR (Nm.cutA 32 l) (Nm.cutZ 32 l)).2))
  else ([], [], 2)
def parseR (l : By) : Rul × Nat :=
  if (verdictR l).2.2 = 0 then
    if (waysR (verdictR l).2.1).2.2.2 = 0 then
      if (whomR (waysR (verdictR l).2.1).2.2.1).2.2 = 0 then
        (⟨(verdictR l).1, (waysR (verdictR l).2.1).1, (waysR (verdictR l).2.1).2.1, (whomR (waysR (verdictR l).2.1).2.2.1).1, (whomR (waysR (verdictR l).2.1).2.2.1).2.1⟩, 0)
      else (r0, (whomR (waysR (verdictR l).2.1).2.2.1).2.2)
    else (r0, (waysR (verdictR l).2.1).2.2.2)
  else (r0, (verdictR l).2.2)

/-! ### memory -/
theorem p_cell {w : World} {B : Nat} {v : Value} {t : TypeId} (h : w.heap[B]? = some (.cells #[v] t (0, 0))) : w.cell? ⟨B, 0, none⟩ = some v := by simp [World.cell?, h]
theorem p_thaw {w : World} {B : Nat} {v : Value} {t : TypeId} (h : w.heap[B]? = some (.cells #[v] t (0, 0))) : w.frozen? ⟨B, 0, none⟩ = false := by simp [World.frozen?, h]
theorem alloc_at (w : World) (o : Obj) : (w.alloc o).heap[w.heap.size]? = some o := by
  show (w.heap.push o)[w.heap.size]? = _
  simp
theorem box_keep {S : Nat → Prop} {w w' : World} {b : Nat} {o : Obj} (h : w.heap[b]? = some o) (hk : Keep S w w') (hs : ¬ S b) : w'.heap[b]? = some o := (hk.block b (Array.getElem?_eq_some_iff.1 h).1 hs).trans h
theorem box_below {w w' : World} {b : Nat} {o : Obj} (h : w.heap[b]? = some o) (hk : Below w.heap.size w w') : w'.heap[b]? = some o := (hk.block b (Array.getElem?_eq_some_iff.1 h).1).trans h
theorem box_lt {w : World} {b : Nat} {o : Obj} (h : w.heap[b]? = some o) : b < w.heap.size := (Array.getElem?_eq_some_iff.1 h).1
theorem below1 (w : World) (a : Obj) : Below w.heap.size w (w.alloc a) := (Below.refl _ _).alloc (Nat.le_refl _) _
theorem below2 (w : World) (a b : Obj) : Below w.heap.size w ((w.alloc a).alloc b) := ((Below.refl _ _).alloc (Nat.le_refl _) _).alloc (by simp) _
theorem push_at (w : World) (o : Obj) {i : Nat} (hi : i = w.heap.size) : (w.alloc o).heap[i]? = some o := by subst hi; exact alloc_at w o
theorem push_old {w : World} {o p : Obj} {i : Nat} (h : w.heap[i]? = some p) : (w.alloc o).heap[i]? = some p := box_below h (below1 w o)
theorem setK (w : World) (q i : Nat) (v : Value) : Keep (fun k => k = q) w (w.setCell ⟨q, i, none⟩ v) := (Keep.refl (fun k => k = q) w).setCell (p := ⟨q, i, none⟩) rfl v
theorem rowK (w : World) (b : Nat) (v : Array Value) : Keep (fun j => j = b) w (w.setRow b v) := ⟨rfl, rfl, rfl, by simp, fun j _ hj => setRow_other w b j _ hj⟩
theorem keepDrew (S : Nat → Prop) (w : World) (q : Nat) : Keep S w (w.drewN q) := ⟨rfl, rfl, rfl, Nat.le_refl _, fun _ _ _ => rfl⟩
theorem tabs_keep {a b : Nat} {S : Nat → Prop} {w w' : World} (h : Lib.Utf8Tabs a b w) (k : Keep S w w') (ha : ¬ S a) (hb : ¬ S b) : Lib.Utf8Tabs a b w' :=
  ⟨fun c hc => k.cell (h.1 c hc) ha, fun i hi => ⟨k.cell (h.2 i hi).1 hb, k.cell (h.2 i hi).2 hb⟩⟩
theorem tabs_bel {a b : Nat} {w w' : World} (h : Lib.Utf8Tabs a b w) (k : Below w.heap.size w w') : Lib.Utf8Tabs a b w' := tabs_keep h (Keep.ofBelow (S := fun _ => False) k) (fun h => h) (fun h => h)

/-! ### giving up -/
def gaveP (n : Nat) : List PanicEntry := [{ v := .iface 127 (.agg #[.int .i64 n]), recovered := false }]
/-- It answered, or it gave up with the error's number. -/
def Gv (n : Nat) (v : Value) (e : Ending) : Prop := (n = 0 ∧ e = .returned v) ∨ (n ≠ 0 ∧ e = .panicked (gaveP n))
theorem gv_ok {v : Value} {e : Ending} (h : e = .returned v) : Gv 0 v e := Or.inl ⟨rfl, h⟩
theorem gv_no {n : Nat} (hn : n ≠ 0) {v : Value} {e : Ending} (h : e = .panicked (gaveP n)) : Gv n v e := Or.inr ⟨hn, h⟩
theorem dem_ok (n : Int) (w : World) : Calls Tryz.prog 97 #[.bool true, .int .i64 n] w fun e w' => e = .returned (.tuple #[]) ∧ w' = w := by
  go_enter Tryz.func97, Tryz.ntmps97
  go_wp2
  go_end0
  exact ⟨rfl, rfl⟩
theorem dem_no (n : Nat) (w : World) : Calls Tryz.prog 97 #[.bool false, .int .i64 n] w fun e w' => e = .panicked (gaveP n) ∧ w' = w := by
  go_enter Tryz.func97, Tryz.ntmps97
  go_wp2
  exact ⟨rfl, rfl, rfl⟩

theorem isSub_any (s : ByteArray) (w : World) : Calls Tryz.prog 102 #[.string s] w fun e w' => e = .returned (.bool (isSubB s.data.toList)) ∧ w' = w := by
  unfold isSubB wNone wTo wFrom wBoth
  rw [← Lib.toList_data]
  generalize h1 : (s.toList == [110, 111, 110, 101]) = b1
  generalize h2 : (s.toList == [116, 111]) = b2
  generalize h3 : (s.toList == [102, 114, 111, 109]) = b3
  generalize h4 : (s.toList == [98, 111, 116, 104]) = b4
  cases b1 <;> cases b2 <;> cases b3 <;> cases b4
  all_goals
    go_enter Tryz.func102, Tryz.ntmps102
    go_wp2
    go_ret
    exact ⟨rfl, rfl⟩

theorem checkName_any (s : ByteArray) (w : World) (hs : s.size ≤ 281474976710656) (hT : Lib.Utf8Tabs 0 1 w) : Calls Tryz.prog 40 #[.string s] w fun e w' => e = .returned (.int .i64 (nameE s.data.toList : Nat)) ∧ Below w.heap.size w w' := by
  have cV := Nm.validString_any s w (by omega) hT
  have hl : s.data.toList.length = s.size := by simp
  unfold nameE
  rw [hl]
  clear hT
  by_cases h1 : 64 < s.size
  · rw [if_pos h1]
    have hd : (64 : Int) < (s.size : Int) := by omega
    go_enter Tryz.func40, Tryz.ntmps40
    go_wp2
    go_ret
    exact ⟨rfl, Below.refl _ _⟩
  · rw [if_neg h1]
    have hd : ¬ (64 : Int) < (s.size : Int) := by omega
    have he : s.toList.isEmpty = decide (s.data.toList = []) := by
      rw [Lib.toList_data]; cases s.data.toList <;> rfl
    by_cases h2 : s.data.toList = []
    · rw [if_pos (Or.inl h2)]
      have hd2 : s.toList.isEmpty = true := by rw [he]; simp [h2]
      clear he h2 cV
      go_enter Tryz.func40, Tryz.ntmps40
      go_wp2
      go_ret
      exact ⟨rfl, Below.refl _ _⟩
    · have hd2 : s.toList.isEmpty = false := by rw [he]; simp [h2]
      generalize Lib.validD s.data.toList = V at cV ⊢
      have hI : (if s.data.toList = [] ∨ V = false then (4 : Nat) else 0) = if V = true then 0 else 4 := by cases V <;> simp [h2]
      rw [hI]
      clear he h2 hI hl h1
      cases V with
      | true =>
        go_enter Tryz.func40, Tryz.ntmps40
        go_wp2_with (go_at_call 57; refine cV.mono ?_; rintro e w1 ⟨rfl, hb⟩)
        go_ret
        exact ⟨rfl, hb⟩
      | false =>
        go_enter Tryz.func40, Tryz.ntmps40
        go_wp2_with (go_at_call 57; refine cV.mono ?_; rintro e w1 ⟨rfl, hb⟩)
        go_ret
        exact ⟨rfl, hb⟩

/-- A reader at a block. -/
def RdrAt (w : World) (b : Nat) (s : ByteArray) : Prop := w.heap[b]? = some (.cells #[.string s] 110 (0, 0))

theorem word_any (b : Nat) (s : ByteArray) (w : World) (h : RdrAt w b s) (hs : s.size ≤ 281474976710656) :
    Calls Tryz.prog 96 #[.pointer (some ⟨b, 0, none⟩)] w fun e w' => Keep (fun i => i = b) w w' ∧
      ((Nm.hasB 32 s.data.toList = true ∧ e = .returned (.string (ba (Nm.cutA 32 s.data.toList))) ∧ RdrAt w' b (ba (Nm.cutZ 32 s.data.toList))) ∨ (Nm.hasB 32 s.data.toList = false ∧ e = .panicked (gaveP 2))) := by
  have cI := Nm.cut_any s ⟨#[32]⟩ 32 rfl w (by omega)
  unfold Nm.cutV at cI
  show Calls _ _ _ _ fun e w' => _ ∧ ((_ ∧ e = .returned (.string ⟨(Nm.cutA 32 s.data.toList).toArray⟩) ∧ RdrAt w' b ⟨(Nm.cutZ 32 s.data.toList).toArray⟩) ∨ _)
  generalize (⟨(Nm.cutA 32 s.data.toList).toArray⟩ : ByteArray) = A at cI ⊢
  generalize (⟨(Nm.cutZ 32 s.data.toList).toArray⟩ : ByteArray) = Z at cI ⊢
  generalize Nm.hasB 32 s.data.toList = H at cI ⊢
  have c0 := p_cell h
  have HR : Hid (RdrAt w b s) := h
  clear h
  cases H with
  | true =>
    have cD := fun w => dem_ok 2 w
    go_enter Tryz.func96, Tryz.ntmps96
    go_wp2_with (first
      | (go_at_call 100; refine cI.mono ?_; clear cI; rintro e w1 ⟨rfl, q, hq⟩; have r1 : Hid (RdrAt w1 b s ∧ Keep (fun i => i = b) w w1) := (by rw [hq]; exact ⟨HR.out, keepDrew _ _ _⟩); clear hq)
      | (go_at_call 97; refine (cD _).mono ?_; clear cD; rintro e w2 ⟨rfl, hw2⟩; replace hw2 := hw2.symm; subst hw2; have f1 := p_thaw r1.out.1; have c1 := p_cell r1.out.1))
    go_ret
    exact ⟨r1.out.2.trans (setK _ _ _ _), Or.inl ⟨trivial, rfl, block_setCell (i := 0) r1.out.1 (.string Z)⟩⟩
  | false =>
    have cD := fun w => dem_no 2 w
    go_enter Tryz.func96, Tryz.ntmps96
    go_wp2_with (first
      | (go_at_call 100; refine cI.mono ?_; clear cI; rintro e w1 ⟨rfl, q, hq⟩; have r1 : Hid (RdrAt w1 b s ∧ Keep (fun i => i = b) w w1) := (by rw [hq]; exact ⟨HR.out, keepDrew _ _ _⟩); clear hq)
      | (go_at_call 97; refine (cD _).mono ?_; clear cD; rintro e w2 ⟨rfl, hw2⟩; replace hw2 := hw2.symm; subst hw2))
    exact ⟨rfl, r1.out.2, Or.inr ⟨trivial, rfl⟩⟩
end Go.Proofs.YtiplalbicibahaaGreatDoor
