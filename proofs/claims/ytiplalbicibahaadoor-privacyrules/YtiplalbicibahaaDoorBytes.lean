/- Slices of bytes, as lists of numbers: what a slice reads as, how that lasts, and the forms of numbers as lists. -/
import Derived.Test.YtiplalbicibahaaDoorProg
import Derived.WalkKit
import Derived.WalkLawsBesides
import Derived.WalkSpells
namespace Go.Proofs.YtiplalbicibahaaDoor
open Go.RowKit

theorem Tryd.info5 : (Tryd.prog.info? 5).map (fun i => (i.zero, i.size, i.bytes)) = some (some (.int .u8 0), 1, 1) := by kernel_rfl

def Bd (xs : List Int) : Prop := ∀ x ∈ xs, 0 ≤ x ∧ x ≤ 255

/-- The cells of some bytes. -/
def bc (xs : List Int) : List Value := xs.map (Value.int .u8)

theorem bc_len (xs : List Int) : (bc xs).length = xs.length := by simp [bc]
theorem bc_append (xs ys : List Int) : bc (xs ++ ys) = bc xs ++ bc ys := by simp [bc]
theorem bc_one (xs : List Int) : ∀ u ∈ bc xs, u.oneCell' = true := by
  intro u hu; simp [bc] at hu; obtain ⟨x, _, rfl⟩ := hu; rfl

theorem Bd.append {xs ys : List Int} (h : Bd xs) (k : Bd ys) : Bd (xs ++ ys) := by
  intro x hx; rcases List.mem_append.1 hx with g | g
  · exact h x g
  · exact k x g
theorem Bd.nil : Bd [] := by intro x hx; cases hx
theorem Bd.take {xs : List Int} (h : Bd xs) (n : Nat) : Bd (xs.take n) := fun x hx => h x (List.mem_of_mem_take hx)
theorem Bd.drop {xs : List Int} (h : Bd xs) (n : Nat) : Bd (xs.drop n) := fun x hx => h x (List.mem_of_mem_drop hx)
theorem Bd.get {xs : List Int} (h : Bd xs) (j : Nat) : 0 ≤ xs.getD j 0 ∧ xs.getD j 0 ≤ 255 := by
  by_cases hj : j < xs.length
  · have e : xs.getD j 0 = xs[j] := by simp [List.getD, List.getElem?_eq_getElem hj]
    rw [e]; exact h _ (List.getElem_mem hj)
  · have e : xs.getD j 0 = 0 := by simp [List.getD, List.getElem?_eq_none (by omega : xs.length ≤ j)]
    rw [e]; omega

/-- What a slice of bytes reads as. -/
structure Rd (w : World) (a : Option Addr) (n c : Nat) (xs : List Int) : Prop where
  len : xs.length = n
  cap : n ≤ c
  most : c ≤ maxLen
  nil : a = none → c = 0
  bytes : Bd xs
  cells : ∀ ad, a = some ad → ∀ j, j < n → w.cell? (ad.add j) = some (.int .u8 (xs.getD j 0))

theorem Rd.carry {w w' : World} {a : Option Addr} {n c : Nat} {xs : List Int} (h : Rd w a n c xs) {B : Nat} (hB : w.heap.size ≤ B) (hb : Below B w w') : Rd w' a n c xs :=
  ⟨h.len, h.cap, h.most, h.nil, h.bytes, fun ad ha j hj => by
    have hc := h.cells ad ha j hj
    rw [hb.cell (Nat.lt_of_lt_of_le (World.block_lt_of_cell? w _ hc) hB)]; exact hc⟩

theorem Rd.news {w : World} {a : Option Addr} {n c : Nat} {xs : List Int} (h : Rd w a n c xs) {ad : Addr} (ha : a = some ad) : ∀ j u, (bc xs)[j]? = some u → w.cell? (ad.add j) = some u := by
  intro j u hj
  have hjl : j < xs.length := by
    rcases Nat.lt_or_ge j xs.length with g | g
    · exact g
    · rw [List.getElem?_eq_none (by simpa [bc] using g)] at hj; cases hj
  rw [h.cells ad ha j (by rw [← h.len]; exact hjl)]
  simp [bc, List.getElem?_eq_getElem hjl] at hj
  simp [List.getD, List.getElem?_eq_getElem hjl, hj]

theorem Rd.ofOwn {w : World} {base : Nat} {v : Value} {n : Nat} {xs : List Int} (h : w.ownsRow base 5 1 v n (bc xs)) (hb : Bd xs) : ∃ a c, v = .slice a n c ∧ Rd w a n c xs := by
  have hl : xs.length = n := by have := h.1; simpa [bc_len] using this
  rcases h.2 with ⟨hv, hn⟩ | ⟨g, cap, cur, hv, hg, hh, hnc, hm, hs, ht⟩
  · subst hv; subst hn
    exact ⟨none, 0, rfl, hl, Nat.le_refl _, by unfold maxLen; omega, fun _ => rfl, hb, fun ad ha => by cases ha⟩
  · subst hv
    refine ⟨some ⟨g, 0, none⟩, cap, rfl, hl, hnc, hm, (fun ha => by cases ha), hb, fun ad ha j hj => ?_⟩
    have hcell := h.cells (g := g) rfl j (.int .u8 (xs.getD j 0)) (by
      have : j < xs.length := by omega
      simp [bc, List.getD, List.getElem?_eq_getElem this])
    cases ha
    exact hcell

/-- 'string(b)'. -/
theorem Rd.string {w : World} {a : Option Addr} {n c : Nat} {xs : List Int} (h : Rd w a n c xs) : (convert 94 9 (.slice a n c)).run Tryd.prog w = .ok (.string (strOfNums xs)) w := by
  cases a with
  | none =>
    have hc := h.nil rfl
    have hn := h.cap
    have hx : xs = [] := List.eq_nil_of_length_eq_zero (by rw [h.len]; omega)
    subst hx
    rw [run_convert_bytes_nil w 94 5 Tryd.underlying94 Tryd.underlying5 n c 9 Tryd.underlying9]
    rfl
  | some ad =>
    have hl : (loadCells ad n).run Tryd.prog w = .ok (xs.map (Value.int .u8)).toArray w := by
      have := run_loadCells_list (P := Tryd.prog) w ad (xs.map (Value.int .u8)) (h.news rfl)
      simpa [h.len] using this
    rw [run_convert_bytes_string w 94 9 5 _ n c Tryd.underlying94 Tryd.underlying5 Tryd.underlying9, run_bytesToString w _ n c xs hl, foldl_push_bytes]
    simp [strOfNums, ByteArray.empty, ByteArray.emptyWithCapacity]
    rfl

theorem str_inj {xs ys : List Int} (hx : Bd xs) (hy : Bd ys) (h : strOfNums xs = strOfNums ys) : xs = ys := by
  have h1 : xs.map (fun n => UInt8.ofNat n.toNat) = ys.map (fun n => UInt8.ofNat n.toNat) := by
    have := congrArg (fun b => b.data.toList) h
    simpa [strOfNums] using this
  have key : ∀ zs : List Int, Bd zs → (zs.map (fun n => UInt8.ofNat n.toNat)).map (fun c => (c.toNat : Int)) = zs := by
    intro zs hz
    rw [List.map_map]
    conv => rhs; rw [← List.map_id zs]
    refine List.map_congr_left fun x hx => ?_
    have := hz x hx
    simp only [Function.comp, id]
    rw [UInt8.toNat_ofNat']
    omega
  rw [← key xs hx, ← key ys hy, h1]

theorem str_append (xs ys : List Int) : strOfNums xs ++ strOfNums ys = strOfNums (xs ++ ys) := by
  apply ByteArray.ext
  simp [strOfNums]

theorem own_snoc {w : World} {B : Nat} {v : Value} {pre : List Int} {x : Int} (h : w.ownsRow B 5 1 v (pre.length + 1) (bc pre ++ [.int .u8 x])) : w.ownsRow B 5 1 v (pre ++ [x]).length (bc (pre ++ [x])) := by
  simpa [bc] using h

theorem below_step {B : Nat} {w wr w1 : World} {o : Obj} {v : Value} {n : Nat} {xs : List Value} (hbel : Below B w wr) (hB : B ≤ wr.heap.size) (hown : wr.ownsRow B 5 1 v n xs) (hg : (wr.alloc o).grownBy w1 v.ownBlock) : Below B w w1 :=
  (hbel.alloc hB o).grown hg (by simp; omega) (fun k hk => (hown.lt k hk).1)

theorem add_flat (b off j : Nat) : (⟨b, off, none⟩ : Addr).add j = ⟨b, off + j, none⟩ := by unfold Addr.add; split <;> simp_all

theorem Rd.flat {w : World} {a : Option Addr} {n c : Nat} {xs : List Int} (h : Rd w a n c xs) (hn : 0 < n) : ∃ b off, a = some ⟨b, off, none⟩ ∧ ∀ j, j < n → w.cell? ⟨b, off + j, none⟩ = some (.int .u8 (xs.getD j 0)) := by
  cases a with
  | none => have := h.nil rfl; have := h.cap; omega
  | some ad =>
    obtain ⟨b, off, spot⟩ := ad
    have hc := h.cells _ rfl 0 hn
    have hspot : spot = none := by simpa [Addr.add] using World.cell?_spot hc
    subst hspot
    refine ⟨b, off, rfl, fun j hj => ?_⟩
    have := h.cells _ rfl j hj
    have hplain : (⟨b, off, none⟩ : Addr).add j = ⟨b, off + j, none⟩ := by unfold Addr.add; split <;> simp_all
    rw [hplain] at this
    exact this

/-! ### The form of a number -/
def formF : Nat → Nat → List Int
  | 0, n => [(n : Int)]
  | f + 1, n => if n < 128 then [(n : Int)] else ((n % 128 + 128 : Nat) : Int) :: formF f (n / 128)
def form (n : Nat) : List Int := formF n n

theorem formF_eq : ∀ f g n, n ≤ f → n ≤ g → formF f n = formF g n
  | 0, 0, _, _, _ => rfl
  | 0, g + 1, n, h, _ => by rw [formF, formF, if_pos (by omega)]
  | f + 1, 0, n, _, h => by rw [formF, formF, if_pos (by omega)]
  | f + 1, g + 1, n, h, h' => by
    rw [formF, formF]
    by_cases hn : n < 128
    · rw [if_pos hn, if_pos hn]
    · rw [if_neg hn, if_neg hn, formF_eq f g (n / 128) (by omega) (by omega)]

theorem form_small {n : Nat} (h : n < 128) : form n = [(n : Int)] := by
  unfold form
  cases n with
  | zero => rfl
  | succ m => rw [formF, if_pos h]
theorem form_big {n : Nat} (h : ¬ n < 128) : form n = ((n % 128 + 128 : Nat) : Int) :: form (n / 128) := by
  unfold form
  cases n with
  | zero => omega
  | succ m => rw [formF, if_neg h, formF_eq m ((m + 1) / 128) _ (by omega) (by omega)]
theorem form_induct {motive : Nat → Prop} (case1 : ∀ n, n < 128 → motive n) (case2 : ∀ n, ¬ n < 128 → motive (n / 128) → motive n) (n : Nat) : motive n := by
  have key : ∀ f n, n ≤ f → motive n := by
    intro f
    induction f with
    | zero => intro n h; exact case1 n (by omega)
    | succ f ih =>
      intro n h
      by_cases hn : n < 128
      · exact case1 n hn
      · exact case2 n hn (ih _ (by omega))
  exact key n n (Nat.le_refl _)

theorem form_bd (n : Nat) : Bd (form n) := by
  induction n using form_induct with
  | case1 n h => rw [form_small h]; intro x hx; simp at hx; omega
  | case2 n h ih =>
    rw [form_big h]; intro x hx
    rcases List.mem_cons.1 hx with g | g
    · subst g; omega
    · exact ih x g

theorem form_len (n k : Nat) (h : n < 2 ^ (7 * (k + 1))) : (form n).length ≤ k + 1 := by
  induction k generalizing n with
  | zero => rw [form_small (by simpa using h)]; simp
  | succ k ih =>
    by_cases hn : n < 128
    · rw [form_small hn]; simp
    · rw [form_big hn]
      have : n / 128 < 2 ^ (7 * (k + 1)) := by
        rw [Nat.div_lt_iff_lt_mul (by omega)]
        have e : 2 ^ (7 * (k + 1 + 1)) = 2 ^ (7 * (k + 1)) * 128 := by rw [Nat.mul_add 7 (k + 1) 1, Nat.pow_add]
        omega
      have := ih _ this
      simp; omega

theorem form_len10 (n : Nat) (h : n < 18446744073709551616) : (form n).length ≤ 10 := form_len n 9 (by
  have : (2 : Nat) ^ (7 * (9 + 1)) = 1180591620717411303424 := by decide
  omega)
theorem form_pos (n : Nat) : 1 ≤ (form n).length := by
  by_cases h : n < 128
  · rw [form_small h]; simp
  · rw [form_big h]; simp

/-! ### Reading a number: what it is, how many bytes it takes, the error's number -/
def scan : List Int → Nat → Nat → Nat × Nat × Nat
  | [], _, _ => (0, 0, 2)
  | c :: r, i, acc =>
    if i = 9 ∧ 1 < c then (0, 0, 3)
    else if 128 ≤ c then scan r (i + 1) (acc + (c % 128).toNat * 2 ^ (7 * i))
    else if c = 0 ∧ 0 < i then (0, 0, 2)
    else (acc + (c % 128).toNat * 2 ^ (7 * i), i + 1, 0)

theorem scan_far {z : Int} {r : List Int} {acc : Nat} (h : 1 < z) : scan (z :: r) 9 acc = (0, 0, 3) := by rw [scan, if_pos ⟨rfl, h⟩]
theorem scan_more {z : Int} {r : List Int} {k acc : Nat} (h : ¬ (k = 9 ∧ 1 < z)) (h1 : 128 ≤ z) : scan (z :: r) k acc = scan r (k + 1) (acc + (z % 128).toNat * 2 ^ (7 * k)) := by rw [scan, if_neg h, if_pos h1]
theorem scan_zero {r : List Int} {k acc : Nat} (h : 0 < k) : scan (0 :: r) k acc = (0, 0, 2) := by rw [scan, if_neg (by omega), if_neg (by omega), if_pos ⟨rfl, h⟩]
theorem scan_end {z : Int} {r : List Int} {k acc : Nat} (h : ¬ (k = 9 ∧ 1 < z)) (h1 : ¬ 128 ≤ z) (h2 : ¬ (z = 0 ∧ 0 < k)) : scan (z :: r) k acc = (acc + (z % 128).toNat * 2 ^ (7 * k), k + 1, 0) := by rw [scan, if_neg h, if_neg h1, if_neg h2]

theorem or_val {acc k : Nat} {z : Int} (h0 : 0 ≤ z) (h1 : z ≤ 255) (hk : k ≤ 9) (h9 : k = 9 → z ≤ 1) (hacc : acc < 2 ^ (7 * k)) :
    bits .or .u64 (acc : Int) (IntKind.u64.wrap (z % 128 * 2 ^ (7 * k))) = ((acc + (z % 128).toNat * 2 ^ (7 * k) : Nat) : Int) ∧ acc + (z % 128).toNat * 2 ^ (7 * k) < 2 ^ (7 * (k + 1)) ∧ acc + (z % 128).toNat * 2 ^ (7 * k) < 18446744073709551616 := by
  obtain ⟨d, hd, hd1⟩ : ∃ d : Nat, z % 128 = (d : Int) ∧ d < 128 := ⟨(z % 128).toNat, by omega, by omega⟩
  rw [hd]
  have e3 : ((d : Int)).toNat = d := by omega
  rw [e3]
  have hp : 0 < 2 ^ (7 * k) := Nat.two_pow_pos _
  have hmul : d * 2 ^ (7 * k) + 2 ^ (7 * k) ≤ 18446744073709551616 := by
    rcases Nat.lt_or_ge k 9 with g | g
    · have h56 : (2 : Nat) ^ 56 = 72057594037927936 := by decide
      have : 2 ^ (7 * k) ≤ 2 ^ 56 := Nat.pow_le_pow_right (by omega) (by omega)
      rw [h56] at this
      have h2 : d * 2 ^ (7 * k) ≤ 127 * 72057594037927936 := Nat.mul_le_mul (by omega) this
      omega
    · have hk9 : k = 9 := by omega
      subst hk9
      have := h9 rfl
      have : d ≤ 1 := by omega
      have e9 : (2 : Nat) ^ (7 * 9) = 9223372036854775808 := by decide
      rw [e9]
      omega
  have hsum : acc + d * 2 ^ (7 * k) < 18446744073709551616 := by omega
  refine ⟨?_, ?_, hsum⟩
  · have e1 : ((d : Int) * 2 ^ (7 * k)) = ((d * 2 ^ (7 * k) : Nat) : Int) := by simp
    have e4 : IntKind.u64.wrap ((d * 2 ^ (7 * k) : Nat) : Int) = ((d * 2 ^ (7 * k) : Nat) : Int) := by rw [IntKind.wrap_u64]; omega
    rw [e1, e4, u64_or_nat _ _ (by omega) (by omega)]
    congr 1
    rw [Nat.or_comm, ← Nat.shiftLeft_eq, ← Nat.shiftLeft_add_eq_or_of_lt hacc]
    omega
  · have e2 : 2 ^ (7 * (k + 1)) = 128 * 2 ^ (7 * k) := by rw [Nat.mul_add 7 k 1, Nat.pow_add, Nat.mul_comm]
    have h2 : d * 2 ^ (7 * k) ≤ 127 * 2 ^ (7 * k) := Nat.mul_le_mul (by omega) (Nat.le_refl _)
    omega

theorem ret3 {k1 k2 k3 : IntKind} {a b c a' b' c' : Int} (h1 : a = a') (h2 : b = b') (h3 : c = c') : Ending.returned (.tuple #[.int k1 a, .int k2 b, .int k3 c]) = .returned (.tuple #[.int k1 a', .int k2 b', .int k3 c']) := by rw [h1, h2, h3]

end Go.Proofs.YtiplalbicibahaaDoor
