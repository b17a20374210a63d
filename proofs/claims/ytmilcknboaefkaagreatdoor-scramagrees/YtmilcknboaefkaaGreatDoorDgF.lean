/- digest.shaBehind: blocks, and what is put behind. -/
import Derived.Test.YtmilcknboaefkaaGreatDoorDgE
set_option maxRecDepth 100000
namespace Go.Proofs.YtmilcknboaefkaaGreatDoor
open Go.RowKit

/-- Some blocks of xs, mixed in. -/
def runB (xs hs : List Int) : Nat → List Int
  | 0 => hs
  | k + 1 => mix (runB xs hs k) ((xs.drop (64 * k)).take 64)
theorem runB_len (xs hs : List Int) (h : hs.length = 8) : ∀ k, (runB xs hs k).length = 8
  | 0 => h
  | k + 1 => mix_len _ _ (runB_len xs hs h k)
theorem runB_app (xs ys hs : List Int) : ∀ k, 64 * k ≤ xs.length → runB (xs ++ ys) hs k = runB xs hs k
  | 0, _ => rfl
  | k + 1, h => by
    unfold runB
    rw [runB_app xs ys hs k (by omega), List.drop_append_of_le_length (by omega), List.take_append_of_le_length (by rw [List.length_drop]; omega)]
def be8 (L : Int) : List Int := [L / 2 ^ 56 % 256, L / 2 ^ 48 % 256, L / 2 ^ 40 % 256, L / 2 ^ 32 % 256, L / 2 ^ 24 % 256, L / 2 ^ 16 % 256, L / 2 ^ 8 % 256, L % 256]
def zn (n : Nat) : Nat := if n % 64 < 56 then 55 - n % 64 else 119 - n % 64
/-- xs with what is put behind it, ah bytes being ahead. -/
def padT (ah : Nat) (xs : List Int) : List Int := xs ++ (128 :: (List.replicate (zn xs.length) 0 ++ be8 (8 * ((ah + xs.length : Nat) : Int))))
def shaB (ah : Nat) (hs xs : List Int) : List Int := bo (runB (padT ah xs) hs ((padT ah xs).length / 64)) 32
def sha (xs : List Int) : List Int := shaB 0 h0s xs

def lb (base : List Int) (L : Int) : Nat → List Int
  | 0 => base
  | k + 1 => (lb base L k).set (63 - k) (L / 2 ^ (8 * k) % 256)
theorem lb_len (base : List Int) (L : Int) : ∀ k, (lb base L k).length = base.length
  | 0 => rfl
  | k + 1 => by simp [lb, lb_len base L k]
theorem lb_be (pre : List Int) (L : Int) (h : pre.length = 56) : lb (pre ++ List.replicate 8 0) L 8 = pre ++ be8 L := by
  have hs : ∀ (j : Nat) (l : List Int) (v : Int), (pre ++ l).set (56 + j) v = pre ++ l.set j v := fun j l v => by
    rw [List.set_append_right _ _ (by omega)]; congr 2; omega
  simp only [lb]
  rw [show 63 - 0 = 56 + 7 from rfl, hs, show 63 - 1 = 56 + 6 from rfl, hs, show 63 - 2 = 56 + 5 from rfl, hs, show 63 - 3 = 56 + 4 from rfl, hs, show 63 - 4 = 56 + 3 from rfl, hs, show 63 - 5 = 56 + 2 from rfl, hs, show 63 - 6 = 56 + 1 from rfl, hs, show 63 - 7 = 56 + 0 from rfl, hs]
  simp [be8, List.replicate]

theorem pad_len (ah : Nat) (xs : List Int) : (padT ah xs).length = xs.length + 1 + zn xs.length + 8 := by simp [padT, be8]; omega
theorem shaB_lo (ah k m : Nat) (xs ys hs : List Int) (hk : xs.length = 64 * k + m) (hm : m < 56) (hy : xs.drop (64 * k) = ys) :
    bo (mix (runB xs hs k) (ys ++ (128 :: (List.replicate (55 - m) 0 ++ be8 (8 * ((ah + xs.length : Nat) : Int)))))) 32 = shaB ah hs xs := by
  have hmod : xs.length % 64 = m := by omega
  have hz : zn xs.length = 55 - m := by unfold zn; rw [hmod, if_pos hm]
  have hyl : ys.length = m := by rw [← hy, List.length_drop]; omega
  unfold shaB
  rw [pad_len, hz, show (xs.length + 1 + (55 - m) + 8) / 64 = k + 1 from by omega]
  show _ = bo (mix (runB (padT ah xs) hs k) (((padT ah xs).drop (64 * k)).take 64)) 32
  unfold padT
  rw [runB_app _ _ _ _ (by omega), List.drop_append_of_le_length (by omega), hy, hz, List.take_of_length_le (by simp [be8]; omega)]
theorem shaB_hi (ah k m : Nat) (xs ys hs : List Int) (hk : xs.length = 64 * k + m) (hm : 56 ≤ m) (hm2 : m < 64) (hy : xs.drop (64 * k) = ys) :
    bo (mix (mix (runB xs hs k) (ys ++ (128 :: List.replicate (63 - m) 0))) (List.replicate 56 0 ++ be8 (8 * ((ah + xs.length : Nat) : Int)))) 32 = shaB ah hs xs := by
  have hmod : xs.length % 64 = m := by omega
  have hz : zn xs.length = 119 - m := by unfold zn; rw [hmod, if_neg (by omega)]
  have hyl : ys.length = m := by rw [← hy, List.length_drop]; omega
  have hsp : (List.replicate (119 - m) 0 : List Int) = List.replicate (63 - m) 0 ++ List.replicate 56 0 := by rw [List.replicate_append_replicate]; congr 1; omega
  unfold shaB
  rw [pad_len, hz, show (xs.length + 1 + (119 - m) + 8) / 64 = k + 1 + 1 from by omega]
  show _ = bo (mix (mix (runB (padT ah xs) hs k) (((padT ah xs).drop (64 * k)).take 64)) (((padT ah xs).drop (64 * (k + 1))).take 64)) 32
  unfold padT
  rw [runB_app _ _ _ _ (by omega), List.drop_append_of_le_length (show 64 * k ≤ xs.length by omega), hy, hz, hsp]
  have e1 : (List.take 64 (ys ++ 128 :: (List.replicate (63 - m) 0 ++ List.replicate 56 0 ++ be8 (8 * ((ah + xs.length : Nat) : Int))))) = ys ++ (128 :: List.replicate (63 - m) 0) := by
    rw [show ys ++ 128 :: (List.replicate (63 - m) 0 ++ List.replicate 56 0 ++ be8 (8 * ((ah + xs.length : Nat) : Int))) = (ys ++ (128 :: List.replicate (63 - m) 0)) ++ (List.replicate 56 0 ++ be8 (8 * ((ah + xs.length : Nat) : Int))) from by simp]
    rw [List.take_append_of_le_length (by simp; omega), List.take_of_length_le (by simp; omega)]
  have e2 : List.drop (64 * (k + 1)) (xs ++ 128 :: (List.replicate (63 - m) 0 ++ List.replicate 56 0 ++ be8 (8 * ((ah + xs.length : Nat) : Int)))) = List.replicate 56 0 ++ be8 (8 * ((ah + xs.length : Nat) : Int)) := by
    rw [show xs ++ 128 :: (List.replicate (63 - m) 0 ++ List.replicate 56 0 ++ be8 (8 * ((ah + xs.length : Nat) : Int))) = (xs ++ (128 :: List.replicate (63 - m) 0)) ++ (List.replicate 56 0 ++ be8 (8 * ((ah + xs.length : Nat) : Int))) from by simp]
    rw [List.drop_append, List.drop_eq_nil_of_le (by simp; omega), List.nil_append, show 64 * (k + 1) - (xs ++ 128 :: List.replicate (63 - m) (0 : Int)).length = 0 from by simp; omega, List.drop_zero]
  rw [e1, e2, List.take_of_length_le (by simp [be8])]

theorem end_lo (ah k m n : Nat) (L : Int) (xs ys hs h8 T : List Int) (hx : xs.length = n) (hk : xs.length = 64 * k + m) (hm : m < 56) (hy : xs.drop (64 * k) = ys) (h8e : runB xs hs k = h8) (hT : ys ++ (128 :: List.replicate (63 - m) 0) = T) (hL : 8 * ((ah : Int) + (n : Int)) = L) :
    bo (mix h8 (lb T L 8)) 32 = shaB ah hs xs := by
  have hyl : ys.length = m := by rw [← hy, List.length_drop]; omega
  have hr : (List.replicate (63 - m) 0 : List Int) = List.replicate (55 - m) 0 ++ List.replicate 8 0 := by
    rw [List.replicate_append_replicate, show 55 - m + 8 = 63 - m from by omega]
  have hq : ((ah + xs.length : Nat) : Int) = (ah : Int) + (n : Int) := by omega
  have e : T = (ys ++ (128 :: List.replicate (55 - m) 0)) ++ List.replicate 8 0 := by rw [← hT, hr]; simp
  rw [← shaB_lo ah k m xs ys hs hk hm hy, h8e, e, lb_be _ _ (by rw [List.length_append, hyl]; simp; omega), hq, hL]
  simp
theorem end_hi (ah k m n : Nat) (L : Int) (xs ys hs h8 T Z : List Int) (hx : xs.length = n) (hk : xs.length = 64 * k + m) (hm : 56 ≤ m) (hm2 : m < 64) (hy : xs.drop (64 * k) = ys) (h8e : runB xs hs k = h8) (hT : ys ++ (128 :: List.replicate (63 - m) 0) = T) (hZ : List.replicate 64 0 = Z) (hL : 8 * ((ah : Int) + (n : Int)) = L) :
    bo (mix (mix h8 T) (lb Z L 8)) 32 = shaB ah hs xs := by
  have hq : ((ah + xs.length : Nat) : Int) = (ah : Int) + (n : Int) := by omega
  have e : Z = List.replicate 56 0 ++ List.replicate 8 0 := by rw [← hZ, List.replicate_append_replicate]
  rw [← shaB_hi ah k m xs ys hs hk hm hm2 hy, h8e, hT, e, lb_be _ _ (by simp), hq, hL]

/-- Bytes laid over others. -/
def ov (xs ys : List Int) : List Int := ys.take xs.length ++ xs.drop ys.length
theorem ov_len (xs ys : List Int) : (ov xs ys).length = xs.length := by simp [ov]; omega

theorem ov_zero (ys : List Int) (m : Nat) (h : ys.length = m) (hm : m < 64) : (ov (List.replicate 64 0) ys).set m 128 = ys ++ (128 :: List.replicate (63 - m) 0) := by
  unfold ov
  rw [List.length_replicate, List.take_of_length_le (by omega), List.drop_replicate, h, show 64 - m = (63 - m) + 1 from by omega, List.replicate_succ, List.set_append_right _ _ (by omega), h, Nat.sub_self, List.set_cons_zero]
theorem wp_build_ar {P : Program} {ops : Array Oper} {rest : List Oper} {o : Oper} {a : Act} {w : World} {Q : Exit → Act → World → Prop} (hgd : o.guard = none) (ty : TypeId) (ho : o.op = .build ty #[]) (k : IntKind) (xs : List Int)
    (hb : P.built ty [] = some (ic k xs).toArray) (h : wpList P ops Q rest (a.put o.dst (.agg (ic k xs).toArray)) w) : wpList P ops Q (o :: rest) a w := by
  refine wpList_build hgd ty #[] ho (by simp [hb]) ?_
  simpa [hb] using h
theorem wp_copy_ar {ops : Array Oper} {rest : List Oper} {o : Oper} {a : Act} {w : World} {Q : Exit → Act → World → Prop} (hgd : o.guard = none) (d s : Operand)
    (ho : o.op = .call { callee := .builtin .copy, args := #[d, s], argTypes := #[22, 22] }) (g n cd : Nat) (hd : a.eval d = .slice (some ⟨g, 0, none⟩) n cd) (t : TypeId) (xs : List Int) (hg : Ar w g t .u8 xs) (hn : xs.length = n)
    (ao : Option Addr) (m c : Nat) (ys : List Int) (hs : a.eval s = .slice ao m c) (hr : Rd w ao m c ys)
    (h : ∀ w1 r, Ar w1 g t .u8 (ov xs ys) → Keep (fun j => j = g) w w1 → w1.heap.size = w.heap.size → wpList Tryz.prog ops Q rest (a.put o.dst (goInt r)) w1) : wpList Tryz.prog ops Q (o :: rest) a w := by
  have hu : Tryz.prog.underlying 22 = some (.slice 5) := Tryz.underlying22
  have hsz : (Tryz.prog.info? 5).map (·.size) = some 1 := by kernel_rfl
  have hmin : ∀ a b : Nat, Nat.min a b = min a b := fun _ _ => rfl
  by_cases h0 : Nat.min m n = 0
  · refine wpList_copy_nothing hgd d s 22 22 ho 5 hu hsz _ ao n cd m c hd hs h0 ?_
    refine h w _ ?_ (Keep.refl _ _) rfl
    have : ov xs ys = xs := by
      unfold ov
      by_cases hm : m = 0
      · have : ys = [] := List.eq_nil_of_length_eq_zero (by rw [hr.len]; exact hm)
        subst this; simp
      · have : xs = [] := List.eq_nil_of_length_eq_zero (by rw [hn]; rw [hmin] at h0; omega)
        subst this; simp
    rw [this]; exact hg
  · cases ao with
    | none => obtain ⟨rfl, rfl⟩ := rd_noneK hr rfl; simp at h0
    | some ad =>
      have hcl : ((bc ys).take n).length = Nat.min m n := by rw [List.length_take, bc_len, hr.len, hmin]; omega
      refine wpList_copy_own hgd d s 22 22 ho 5 hu hsz g 0 n cd ad m c hd hs _ t hg ((bc ys).take n) hcl
        (fun j v hv => hr.news rfl j v (by rw [List.getElem?_take] at hv; split at hv; exact hv; cases hv)) (by rw [hcl, hmin]; simp [ic_len, hn]; omega) (fun v hv => bc_one ys v (List.mem_of_mem_take hv)) ?_
      refine h _ _ ?_ ⟨rfl, rfl, rfl, by simp, fun j _ hj => setRow_other w g j _ hj⟩ (by simp)
      show (w.setRow g _).heap[g]? = _
      rw [setRow_heap w g _ _ t (0, 0) hg]
      congr 2
      simp only [List.take_zero, List.nil_append, Nat.zero_add]
      unfold ov ic bc
      rw [hn, List.map_append, List.map_take, List.map_drop]
      congr 2
      have := hr.len
      by_cases hmn : m ≤ n
      · rw [List.length_take, List.length_map]; congr 1; omega
      · rw [List.drop_eq_nil_of_le (by simp [hn]; omega), List.drop_eq_nil_of_le (by simp [hn]; omega)]

end Go.Proofs.YtmilcknboaefkaaGreatDoor
