/- Spread: the number by which users are spread; both ways of reckoning it. -/
import Derived.Test.YtikklhnkkfimfaaDoorNmRow
namespace Go.Proofs.YtikklhnkkfimfaaDoor
open Go.RowKit

theorem Row.len {w : World} {B : Nat} {v : Value} {l : List UInt8} (h : Row w B v l) : ∃ g c, v = .slice (some ⟨g, 0, none⟩) l.length c ∧ (∀ j (h : j < l.length), w.cell? ⟨g, j, none⟩ = some (bv l[j])) := by
  obtain ⟨g, c, hv, _, _, _, _, _, _, h3⟩ := h
  exact ⟨g, c, hv, h3⟩

def spL (a b : ByteArray) : List UInt8 := (a ++ ⟨#[0]⟩ ++ b).data.toList
def spStep (n : Int) (c : UInt8) : Int := IntKind.u64.wrap (bits BinOp.xor IntKind.u64 n (IntKind.u64.wrap c.toNat) * 1099511628211)
theorem sp_take (l : List UInt8) (k : Nat) (h : k < l.length) (s : Int) : (l.take (k + 1)).foldl spStep s = spStep ((l.take k).foldl spStep s) l[k] := by
  rw [List.take_succ_eq_append_getElem h, List.foldl_append]; rfl

theorem Row.lenN {w : World} {B : Nat} {v : Value} {l : List UInt8} (h : Row w B v l) : ∃ g c N, v = .slice (some ⟨g, 0, none⟩) N c ∧ l.length = N ∧ Hid (∀ j (h : j < l.length), w.cell? ⟨g, j, none⟩ = some (bv l[j])) := by
  obtain ⟨g, c, hv, h3⟩ := h.len
  exact ⟨g, c, l.length, hv, rfl, h3⟩
theorem src_zero (w : World) : Src Tryd.prog 1 43 (.slice (some ⟨w.heap.size, 0, none⟩) 1 1) ([0] : List UInt8).length (bvs [0]) (w.alloc (.cells #[.int .u8 0] 5)) :=
  Src.ofSlice _ Tryd.underlying43 ⟨w.heap.size, 0, none⟩ 1 1 (bvs [0]) rfl (fun j u hj => by
    match j, hj with
    | 0, hj => simp [bvs, bv] at hj; subst hj; simp [add_flat]
    | j + 1, hj => simp [bvs] at hj) (fun u hu => by simp [bvs, bv] at hu; subst hu; rfl)
theorem src_str (w : World) (s : ByteArray) : Src Tryd.prog 1 9 (.string s) s.data.toList.length (bvs s.data.toList) w := by
  have h := Src.ofString w (P := Tryd.prog) Tryd.underlying9 s
  have e : s.data.toList.length = s.size := by simp
  rw [e]
  exact h

set_option maxHeartbeats 1600000 in
theorem spread_any (a b : ByteArray) (w : World) (ha : a.size ≤ 1000) (hb : b.size ≤ 1000) :
    Calls Tryd.prog 20 #[.string a, .string b] w fun e w' => e = .returned (.int .u64 ((spL a b).foldl spStep 14695981039346656037)) ∧ Below w.heap.size w w' := by
  have hz0 : (⟨#[0]⟩ : ByteArray).size = 1 := rfl
  obtain ⟨v, w1, hcv, hR, hb1⟩ := row_conv (a ++ ⟨#[0]⟩ ++ b) w (by simp; omega)
  obtain ⟨g, c, rfl, hcell⟩ := hR.len
  obtain ⟨N, hN⟩ : ∃ N, (a ++ ⟨#[0]⟩ ++ b).data.toList.length = N := ⟨_, rfl⟩
  have hN2 : N ≤ 3000 := by rw [← hN]; simp; omega
  rw [hN] at hcv
  have hL : (a ++ ⟨#[0]⟩ ++ b).data.toList = spL a b := rfl
  rw [hL] at hcell hN
  clear hR hL
  generalize spL a b = l at hcell hN ⊢
  have HC : Hid (∀ (j : Nat) (h : j < l.length), w1.cell? ⟨g, j, none⟩ = some (bv l[j])) := hcell
  clear hcell
  go_enter Tryd.func20, Tryd.ntmps20
  go_wp2
  go_loop [5, 14] (fun n i => ∃ k : Nat, k ≤ N ∧ i = .int .i64 k ∧ n = .int .u64 ((l.take k).foldl spStep 14695981039346656037)) (fun _ i => N - (intOf i).toNat)
  case atStart => exact ⟨0, by omega, rfl, rfl⟩
  case round =>
    obtain ⟨k, hk, rfl, rfl⟩ := hrel
    by_cases hkn : k < N
    · have hkN : (k : Int) < (N : Int) := by omega
      have hk0 : (0 : Int) ≤ (k : Int) := by omega
      have hc1 : w1.cell? ⟨g, k, none⟩ = some (.int .u8 ((l[k]'(by omega)).toNat)) := HC.out k (by omega)
      obtain ⟨x, hx⟩ : ∃ x, l[k]'(by omega) = x := ⟨_, rfl⟩
      rw [hx] at hc1
      obtain ⟨n, hn⟩ : ∃ n, (l.take k).foldl spStep 14695981039346656037 = n := ⟨_, rfl⟩
      rw [hn]
      go_wp2
      refine ⟨⟨k + 1, by omega, by simp, ?_⟩, by simp [intOf]; omega⟩
      rw [sp_take l k (by omega), hn, hx]
      rfl
    · have hkN : k = N := by omega
      subst hkN
      rw [← hN, List.take_length]
      go_wp2
      go_ret
      exact ⟨rfl, hb1⟩

set_option maxHeartbeats 1600000 in
theorem refSpread_any (a b : ByteArray) (w : World) (ha : a.size ≤ 1000) (hb : b.size ≤ 1000) :
    Calls Tryd.prog 21 #[.string a, .string b] w fun e w' => e = .returned (.int .u64 ((spL a b).foldl spStep 14695981039346656037)) ∧ Below w.heap.size w w' := by
  obtain ⟨v, w1, hcv, hR, hb1⟩ := row_conv a w (by omega)
  have hal : a.data.toList.length = a.size := by simp
  have hbl : b.data.toList.length = b.size := by simp
  go_enter Tryd.func21, Tryd.ntmps21
  have tok : True := trivial
  go_wp2_with (first
    | (at_builtin; clear tok; refine row_wp rfl _ _ _ rfl w.heap.size _ _ [0] rfl (hR.carry ((Below.refl _ _).alloc (Nat.le_refl _) _)) _ rfl (src_zero w1) (by simp; omega) (by have := hb1.size; simp; omega) ?_; intro v2 w2 hR2 hb2)
    | (at_builtin; refine row_wp rfl _ _ _ rfl w.heap.size _ _ b.data.toList rfl hR2 _ rfl (src_str _ b) (by simp; omega) (by have := hb1.size; have := hb2.size; simp at this; omega) ?_; intro v3 w3 hR3 hb3; obtain ⟨g, c, N, rfl, hN, HC⟩ := hR3.lenN; clear hR3))
  have hL : a.data.toList ++ [0] ++ b.data.toList = spL a b := by simp [spL]
  rw [hL] at hN HC
  have hN2 : N ≤ 3000 := by rw [← hN, ← hL]; simp; omega
  have hb4 : Below w.heap.size w w3 := ((hb1.alloc hb1.size _).trans hb2).trans hb3
  clear hb1 hb2 hb3 hR2 hR hL
  obtain ⟨l, hl⟩ : ∃ l, spL a b = l := ⟨_, rfl⟩
  rw [hl] at HC hN
  go_loop [5, 7] (fun n i => ∃ k : Nat, k ≤ N ∧ i = .int .i64 k ∧ n = .int .u64 ((l.take k).foldl spStep 14695981039346656037)) (fun _ i => N - (intOf i).toNat)
  case atStart => exact ⟨0, by omega, rfl, rfl⟩
  case round =>
    obtain ⟨k, hk, rfl, rfl⟩ := hrel
    by_cases hkn : k < N
    · have hkN : (k : Int) < (N : Int) := by omega
      have hk0 : (0 : Int) ≤ (k : Int) := by omega
      have hc1 : w3.cell? ⟨g, k, none⟩ = some (.int .u8 ((l[k]'(by omega)).toNat)) := HC.out k (by omega)
      obtain ⟨x, hx⟩ : ∃ x, l[k]'(by omega) = x := ⟨_, rfl⟩
      rw [hx] at hc1
      obtain ⟨n, hn⟩ : ∃ n, (l.take k).foldl spStep 14695981039346656037 = n := ⟨_, rfl⟩
      rw [hn]
      go_wp2
      refine ⟨⟨k + 1, by omega, by simp, ?_⟩, by simp [intOf]; omega⟩
      rw [sp_take l k (by omega), hn, hx]
      rfl
    · have hkN : k = N := by omega
      subst hkN
      rw [← hN, List.take_length]
      go_wp2
      go_ret
      exact ⟨rfl, hb4⟩
end Go.Proofs.YtikklhnkkfimfaaDoor
