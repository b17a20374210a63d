/- The document's digest: ror, its words, its padding. -/
import Derived.Test.YtmilcknboaefkaaGreatDoorDgI
import Derived.Test.YtmilcknboaefkaaGreatDoorAnyP
set_option maxRecDepth 100000
namespace Go.Proofs.YtmilcknboaefkaaGreatDoor
open Go.RowKit

set_option maxHeartbeats 400000 in
theorem ror_any (x : Int) (b : Nat) (w : World) (h1 : b < 32) :
    Calls Tryz.prog 57 #[.int .u32 x, .int .i64 (b : Int)] w fun e w' => e = .returned (.int .u32 (rr x b)) ∧ ∃ d, w' = w.drewN d := by
  have hz : (b : Int) ≤ 32 := by omega
  have hr : bits .or .u32 (x / 2 ^ b) (x * 2 ^ (32 - b) % 4294967296) = rr x b := rfl
  go_enter Tryz.func57, Tryz.ntmps57
  go_wp2
  go_quiet (fail)
  go_wp2
  go_ret
  exact ⟨rfl, _, rfl⟩

theorem wp_buildc {P : Program} {ops : Array Oper} {rest : List Oper} {o : Oper} {a : Act} {w : World} {Q : Exit → Act → World → Prop} (hgd : o.guard = none) (t : TypeId) (parts : Array (Nat × Operand)) (ho : o.op = .build t parts) (vals : List (Nat × Value)) (hv : (parts.map fun (i, x) => (i, a.eval x)).toList = vals) (k : IntKind) (xs : List Int)
    (hb : P.built t vals = some (ic k xs).toArray) (h : wpList P ops Q rest (a.put o.dst (.agg (ic k xs).toArray)) w) : wpList P ops Q (o :: rest) a w := by
  subst hv
  refine wpList_build hgd t parts ho (by rw [hb]; rfl) ?_
  rw [hb]; exact h

set_option maxRecDepth 100000 in
set_option maxHeartbeats 800000 in
theorem shaK_any (w : World) : Calls Tryz.prog 55 #[] w fun e w' => e = .returned (.agg (ic .u32 kws).toArray) ∧ Below w.heap.size w w' := by
  have hi46 := (size_of Tryz.u46).2
  have hb46 : Tryz.prog.built 98 (kws.zipIdx.map fun x => (x.2, Value.int .u32 x.1)) = some (ic .u32 kws).toArray := by kernel_rfl
  go_enter Tryz.func55, Tryz.ntmps55
  go_wp2_with (first
    | (refine wp_alloc_ar rfl 98 rfl .u32 (List.replicate 64 0) 64 Tryz.z46 ?_; intro g1 w1 A1 hg1 hb1)
    | (refine wp_buildc rfl 98 _ rfl _ rfl .u32 kws hb46 ?_)
    | (refine wp_store_ar rfl 98 (.tmp 0) (.tmp 1) rfl g1 rfl .u32 kws rfl 98 _ A1 rfl hi46 ?_; intro w2 A2 hk2 hs2))
  exact bodyPost_ret (v := .agg (ic .u32 kws).toArray) (ar_results rfl _ _ g1 98 .u32 _ 88 64 rfl A2 Tryz.u46 rfl) rfl ⟨rfl, hb1.trans (hk2.below hb1.size (fun q hq => by omega))⟩

def zpad (xs : List Int) (j : Nat) : List Int := xs ++ (128 :: List.replicate j 0)
theorem zpad_succ (xs : List Int) (j : Nat) : zpad xs j ++ [0] = zpad xs (j + 1) := by
  unfold zpad; rw [List.append_assoc, List.cons_append, List.replicate_succ']
theorem zpad_len (xs : List Int) (j : Nat) : (zpad xs j).length = xs.length + 1 + j := by simp [zpad]; omega
theorem zpad_bd {xs : List Int} (h : Bd xs) (j : Nat) : Bd (zpad xs j) := h.append (bd_cons (by omega) (by omega) (bd_zeros j))
theorem be8_get (L : Int) (j : Nat) (h : j < 8) : (be8 L).getD j 0 = L / 2 ^ (8 * (7 - j)) % 256 := by
  match j, h with
  | 0, _ => rfl
  | 1, _ => rfl
  | 2, _ => rfl
  | 3, _ => rfl
  | 4, _ => rfl
  | 5, _ => rfl
  | 6, _ => rfl
  | 7, _ => simp [be8]
theorem be8_bd (L : Int) : Bd (be8 L) := fun x hx => by simp only [be8, List.mem_cons, List.not_mem_nil, or_false] at hx; rcases hx with h | h | h | h | h | h | h | h <;> subst h <;> omega
theorem zn_mod (n j : Nat) (h : j ≤ zn n) : (n + 1 + j) % 64 = 56 ↔ j = zn n := by unfold zn at *; split at h <;> split <;> omega

set_option maxRecDepth 100000 in
set_option maxHeartbeats 800000 in
theorem pad_any (a : Option Addr) (n c : Nat) (xs : List Int) (w : World) (hR : Rd w a n c xs) (hn : n ≤ 1000000) :
    Calls Tryz.prog 56 #[.slice a n c] w fun e w' => ∃ v, e = .returned v ∧ New w w' v (padT 0 xs) ∧ Below w.heap.size w w' := by
  have HL : Hid (xs.length = n) := hR.len
  have hcp := hR.cap
  have hmx : c ≤ 9223372036854775807 := hR.most
  have hbx := hR.bytes
  have t1 : True := trivial
  go_enter Tryz.func56, Tryz.ntmps56
  go_wp2_with (first
    | (at_builtin; clear t1; refine wp_app0K rfl _ _ rfl rfl a n c xs rfl hR (by omega) ?_; intro v1 w1 ho1 hb1 _)
    | (at_builtin; refine wp_app1K rfl (.tmp 8) (.tmp 9) rfl w.heap.size v1 n xs rfl ho1 128 (by omega) (by omega) rfl (by omega) hb1.size ?_; intro v2 w2 ho2 hb2))
  have b2 := hb1.trans hb2
  obtain ⟨a2, c2, rfl, _⟩ := Rd.ofOwn ho2 (zpad_bd hbx 0)
  clear hb1 hb2 ho1 hR
  go_loopw [3] (fun sl wr => ∃ (j : Nat) (a5 : Option Addr) (n5 c5 : Nat), sl = .slice a5 n5 c5 ∧ j ≤ zn n ∧ Hid (n5 = n + 1 + j) ∧ wr.ownsRow w.heap.size 5 1 (.slice a5 n5 c5) n5 (bc (zpad xs j)) ∧ Below w.heap.size w wr) (fun sl _ => 1000200 - lenV sl)
  case atStart => exact ⟨0, a2, n + 1, c2, rfl, Nat.zero_le _, rfl, ho2, b2⟩
  case round =>
    clear ho2 b2
    obtain ⟨j, a5, n5, c5, rfl, hj, HN, hown, hb⟩ := hrel
    have hzn : zn n ≤ 119 := by unfold zn; split <;> omega
    have hn5 : n5 ≤ 1000200 := by have := HN.out; omega
    by_cases hjz : j = zn n
    · have heq : (((n5 : Int) % 64 != 56)) = false := by
        have h1 := (zn_mod n j hj).2 hjz
        have := HN.out
        rw [bne_eq_false_iff_eq]; omega
      obtain ⟨L, HLL⟩ : ∃ L : Int, Hid ((n : Int) * 8 = L) := ⟨_, rfl⟩
      have hL0 : 0 ≤ L := by rw [← HLL.out]; omega
      have hL1 : L < 9223372036854775807 := by rw [← HLL.out]; omega
      have hLr : (n : Int) * 8 = L := HLL.out
      have HJ : Hid (j = zn n) := hjz
      have HB : Hid (Below w.heap.size w wr) := hb
      obtain ⟨Z, HZ⟩ : ∃ Z, Hid (zpad xs j = Z) := ⟨_, rfl⟩
      have hZb : Bd Z := by rw [← HZ.out]; exact zpad_bd hbx j
      rw [HZ.out] at hown
      clear hb hjz
      go_wp2_with fail
      clear hLr
      go_loopw [3, 5] (fun sl k wr => ∃ (i : Nat) (a7 : Option Addr) (n7 c7 : Nat), sl = .slice a7 n7 c7 ∧ i ≤ 8 ∧ k = .int .i64 (7 - (i : Int)) ∧ Hid (n7 = n5 + i) ∧ wr.ownsRow w.heap.size 5 1 (.slice a7 n7 c7) n7 (bc (Z ++ (be8 L).take i)) ∧ Below w.heap.size w wr) (fun sl _ _ => 1000300 - lenV sl)
      case atStart => exact ⟨0, a5, n5, c5, rfl, by omega, rfl, rfl, by simpa using hown, HB.out⟩
      case round =>
        clear hown HB
        obtain ⟨i, a7, n7, c7, rfl, hi, rfl, HN7, hown, hb⟩ := hrel
        have hn7 : n7 ≤ 1000300 := by have := HN7.out; omega
        have HB : Hid (Below w.heap.size w wr) := hb
        clear hb
        by_cases hi8 : i < 8
        · have hc0 : 0 ≤ 7 - (i : Int) := by omega
          have hn7' : n7 < 1000300 := by have := HN7.out; omega
          have hsh : (8 * (7 - (i : Int))).toNat = 8 * (7 - i) := by omega
          have hle : 8 * (7 - (i : Int)) ≤ 64 := by omega
          have hge : 0 ≤ 8 * (7 - (i : Int)) := by omega
          obtain ⟨x, HX⟩ : ∃ x : Int, Hid (L / 2 ^ (8 * (7 - i)) % 256 = x) := ⟨_, rfl⟩
          have hx0 : 0 ≤ x ∧ x ≤ 255 := by rw [← HX.out]; omega
          have hxr : L / 2 ^ (8 * (7 - i)) % 256 = x := HX.out
          go_wp2_with (at_builtin; refine wp_app1K rfl (.tmp 26) (.tmp 32) rfl w.heap.size _ n7 (Z ++ (be8 L).take i) rfl hown x (by omega) (by omega) rfl (by omega) HB.out.size ?_; intro v3 w3 ho3 hb3)
          have he : Z ++ (be8 L).take i ++ [x] = Z ++ (be8 L).take (i + 1) := by
            rw [List.append_assoc, take_snocI (be8 L) i (by simp [be8]; omega), be8_get L i hi8, HX.out]
          rw [he] at ho3
          obtain ⟨a8, c8, rfl, _⟩ := Rd.ofOwn ho3 (hZb.append ((be8_bd L).take (i + 1)))
          exact ⟨⟨i + 1, a8, n7 + 1, c8, rfl, by omega, by congr 1; omega, (by have := HN7.out; show _ = _; omega), ho3, HB.out.trans hb3⟩, by simp only [lenV]; omega⟩
        · obtain rfl : i = 8 := by omega
          have hc0 : ¬ 0 ≤ 7 - ((8 : Nat) : Int) := by omega
          have hfin : Z ++ (be8 L).take 8 = padT 0 xs := by
            rw [List.take_of_length_le (by simp [be8]), ← HZ.out, HJ.out]
            unfold padT zpad
            rw [HL.out, show 8 * ((0 + n : Nat) : Int) = L from by rw [← HLL.out]; omega, List.append_assoc, List.cons_append]
          have hln : n7 = (padT 0 xs).length := by
            have := hown.1
            rw [hfin, bc_len] at this
            omega
          rw [hfin, hln] at hown
          have HO : Hid (New w wr (.slice a7 (padT 0 xs).length c7) (padT 0 xs)) := ⟨hown, by rw [← hfin]; exact hZb.append ((be8_bd L).take 8)⟩
          rw [← hln] at HO
          clear hown hfin hln
          go_wp2
          go_ret
          exact ⟨_, rfl, HO.out, HB.out⟩
    · have hne : (((n5 : Int) % 64 != 56)) = true := by
        have h1 := (zn_mod n j hj)
        have := HN.out
        rw [bne_iff_ne]; omega
      have hn5' : n5 < 1000200 := by have := HN.out; omega
      have HB : Hid (Below w.heap.size w wr) := hb
      clear hb
      go_wp2_with (at_builtin; refine wp_app1K rfl (.tmp 15) (.tmp 16) rfl w.heap.size _ n5 (zpad xs j) rfl hown 0 (by omega) (by omega) rfl (by omega) HB.out.size ?_; intro v3 w3 ho3 hb3)
      rw [zpad_succ] at ho3
      obtain ⟨a6, c6, rfl, _⟩ := Rd.ofOwn ho3 (zpad_bd hbx (j + 1))
      go_roundw
      case rel => exact ⟨j + 1, a6, n5 + 1, c6, rfl, by omega, (by have := HN.out; show _ = _; omega), ho3, HB.out.trans hb3⟩
      case measure => simp only [lenV]; omega

end Go.Proofs.YtmilcknboaefkaaGreatDoor
