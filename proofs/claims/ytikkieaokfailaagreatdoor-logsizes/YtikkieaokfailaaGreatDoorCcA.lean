/- crc: shifted, More, Sum; the document's. -/
import Derived.Test.YtikkieaokfailaaGreatDoorCcP
namespace Go.Proofs.YtikkieaokfailaaGreatDoor
open Go.RowKit

theorem sb_one {r : BitVec 32} (h : r.getLsbD 0 = true) : sb r = (r >>> 1) ^^^ 0xedb88320#32 := by unfold sb; rw [h]; rfl
theorem sb_nil {r : BitVec 32} (h : r.getLsbD 0 = false) : sb r = r >>> 1 := by unfold sb; rw [h]; simp

set_option maxRecDepth 100000 in
set_option maxHeartbeats 800000 in
theorem shifted_any (r : BitVec 32) (w : World) :
    Calls Tryz.prog 169 #[.int .u32 (uw r)] w fun e w' => e = .returned (.int .u32 (uw (sh r 8))) ∧ w' = w := by
  go_enter Tryz.func169, Tryz.ntmps169
  go_wp2_with fail
  go_loopw [0, 3, 4] (fun v f i wr => ∃ k : Nat, k ≤ 8 ∧ i = .int .i64 k ∧ v = .int .u32 (uw (sh r k)) ∧ wr = w) (fun _ _ i _ => 8 - (intOf i).toNat)
  case atStart => exact ⟨0, by omega, rfl, rfl, rfl⟩
  case round =>
    obtain ⟨k, hk, rfl, rfl, rfl⟩ := hrel
    by_cases hlt : k < 8
    · have hcl : (k : Int) < 8 := by omega
      have hs : sh r (k + 1) = sb (sh r k) := rfl
      have ha := and_uw (sh r k)
      have hd := shr_uw (sh r k)
      have hp := poly_uw (sh r k >>> 1)
      cases hb : (sh r k).getLsbD 0 with
      | true =>
        rw [hb] at ha
        rw [sb_one hb] at hs
        have ha' : bits .and .u32 (uw (sh r k)) 1 = 1 := ha
        clear ha hb
        go_wp2
        exact ⟨⟨k + 1, by omega, by go_num, by rw [hs], trivial⟩, by simp [intOf]; omega⟩
      | false =>
        rw [hb] at ha
        rw [sb_nil hb] at hs
        have ha' : bits .and .u32 (uw (sh r k)) 1 = 0 := ha
        clear ha hb
        go_wp2
        exact ⟨⟨k + 1, by omega, by go_num, by rw [hs], trivial⟩, by simp [intOf]; omega⟩
    · obtain rfl : k = 8 := by omega
      have hcl2 : ¬ ((8 : Nat) : Int) < 8 := by omega
      go_wp2
      go_ret
      exact ⟨rfl, rfl⟩

theorem reg_take (r : BitVec 32) (xs : List Int) (k : Nat) (h : k < xs.length) : reg r (xs.take (k + 1)) = sh (reg r (xs.take k) ^^^ byB (xs.getD k 0)) 8 := by
  rw [List.take_succ_eq_append_getElem h, reg_append]
  have : xs.getD k 0 = xs[k] := by simp [List.getD, List.getElem?_eq_getElem h]
  rw [this]; rfl

set_option maxRecDepth 100000 in
set_option maxHeartbeats 800000 in
theorem more_any (s : BitVec 32) (a : Option Addr) (n c : Nat) (xs : List Int) (w : World) (hR : Rd w a n c xs) :
    Calls Tryz.prog 157 #[.int .u32 (uw s), .slice a n c] w fun e w' => e = .returned (.int .u32 (uw (more s xs))) ∧ w' = w := by
  have hl := hR.len
  have hcp := hR.cap
  have hmx : c ≤ 9223372036854775807 := hR.most
  have hN1 := not_uw s
  have HR : Hid (Rd w a n c xs) := hR
  have HL : Hid (xs.length = n) := hl
  clear hR hl
  go_enter Tryz.func157, Tryz.ntmps157
  go_wp2_with fail
  go_loopw [5, 7, 12] (fun v f i wr => ∃ k : Nat, k ≤ n ∧ i = .int .i64 k ∧ v = .int .u32 (uw (reg (~~~ s) (xs.take k))) ∧ wr = w) (fun _ _ i _ => n - (intOf i).toNat)
  case atStart => exact ⟨0, by omega, rfl, rfl, rfl⟩
  case round =>
    obtain ⟨k, hk, rfl, rfl, hw⟩ := hrel
    replace hw := hw.symm
    subst hw
    by_cases hlt : k < n
    · have hcl : (k : Int) < (n : Int) := by omega
      obtain ⟨b, off, rfl, hce⟩ := HR.out.flat (by omega)
      have hc1 := hce k hlt
      have hbx := HR.out.bytes.get k
      have hst := reg_take (~~~ s) xs k (by rw [HL.out]; exact hlt)
      have hxb := xor_byte (reg (~~~ s) (xs.take k)) (xs.getD k 0)
      obtain ⟨x, HX⟩ : ∃ x, Hid (xs.getD k 0 = x) := ⟨_, rfl⟩
      rw [HX.out] at hc1 hbx hst hxb
      have hx32 : x % 4294967296 = x := by omega
      have hst' : Hid (_ = _) := hst
      obtain ⟨R, HRg⟩ : ∃ R, Hid (reg (~~~ s) (xs.take k) = R) := ⟨_, rfl⟩
      rw [HRg.out] at hxb hst' ⊢
      clear hst hce hN1
      go_wp2_with (go_at_call 169; refine (shifted_any (R ^^^ byB x) _).mono ?_; rintro e w' ⟨rfl, rfl⟩)
      exact ⟨⟨k + 1, by omega, by go_num, by rw [hst'.out], trivial⟩, by simp [intOf]; omega⟩
    · obtain rfl : k = n := by omega
      have hcl2 : ¬ (k : Int) < (k : Int) := by omega
      have ht : xs.take k = xs := List.take_of_length_le (by rw [HL.out]; omega)
      rw [ht]
      have hN2 := not_uw (reg (~~~ s) xs)
      clear ht hN1
      go_wp2
      go_ret
      exact ⟨rfl, rfl⟩

theorem uw_zero : (0 : Int) = uw 0#32 := rfl
theorem sum_any (a : Option Addr) (n c : Nat) (xs : List Int) (w : World) (hR : Rd w a n c xs) :
    Calls Tryz.prog 137 #[.slice a n c] w fun e w' => e = .returned (.int .u32 (uw (more 0#32 xs))) ∧ w' = w := by
  have hM := fun u (h : Rd u a n c xs) => more_any 0#32 a n c xs u h
  go_enter Tryz.func137, Tryz.ntmps137
  go_wp2_with (go_at_call 157; refine (hM _ hR).mono ?_; rintro e w' ⟨rfl, rfl⟩)
  go_ret
  exact ⟨rfl, rfl⟩

set_option maxRecDepth 100000 in
set_option maxHeartbeats 1600000 in
theorem refMore_any (s : BitVec 32) (a : Option Addr) (n c : Nat) (xs : List Int) (w : World) (hR : Rd w a n c xs) :
    Calls Tryz.prog 148 #[.int .u32 (uw s), .slice a n c] w fun e w' => e = .returned (.int .u32 (uw (more s xs))) ∧ w' = w := by
  have hcp := hR.cap
  have hmx : c ≤ 9223372036854775807 := hR.most
  have hN1 := not_uw s
  have HL : Hid (xs.length = n) := hR.len
  have HR : Hid (Rd w a n c xs) := hR
  clear hR
  go_enter Tryz.func148, Tryz.ntmps148
  go_wp2_with fail
  go_loopw [5, 6, 7] (fun v i f wr => ∃ k : Nat, k ≤ n ∧ i = .int .i64 k ∧ v = .int .u32 (uw (reg (~~~ s) (xs.take k))) ∧ wr = w) (fun _ i _ _ => n - (intOf i).toNat)
  case atStart => exact ⟨0, by omega, rfl, rfl, rfl⟩
  case round =>
    obtain ⟨k, hk, rfl, rfl, hw⟩ := hrel
    replace hw := hw.symm
    subst hw
    by_cases hlt : k < n
    · have hcl : (k : Int) < (n : Int) := by omega
      obtain ⟨b, off, rfl, hce⟩ := HR.out.flat (by omega)
      have hc1 := hce k hlt
      have hbx := HR.out.bytes.get k
      have hst := reg_take (~~~ s) xs k (by rw [HL.out]; exact hlt)
      have hxb := xor_byte (reg (~~~ s) (xs.take k)) (xs.getD k 0)
      obtain ⟨x, HX⟩ : ∃ x, Hid (xs.getD k 0 = x) := ⟨_, rfl⟩
      rw [HX.out] at hc1 hbx hst hxb
      have hx32 : x % 4294967296 = x := by omega
      have hst' : Hid (_ = _) := hst
      obtain ⟨R, HRg⟩ : ∃ R, Hid (reg (~~~ s) (xs.take k) = R) := ⟨_, rfl⟩
      rw [HRg.out] at hxb hst' ⊢
      clear hst hce hN1
      go_wp2_with fail
      have hr0 : R ^^^ byB x = sh (R ^^^ byB x) 0 := rfl
      go_loopw [5, 7] (fun v i w2 => ∃ j : Nat, j ≤ 8 ∧ i = .int .i64 j ∧ v = .int .u32 (uw (sh (R ^^^ byB x) j)) ∧ w2 = w) (fun _ i _ => 8 - (intOf i).toNat)
      case atStart => exact ⟨0, by omega, rfl, rfl, rfl⟩
      case round =>
        obtain ⟨j, hj, rfl, rfl, hw2⟩ := hrel
        replace hw2 := hw2.symm
        subst hw2
        clear hxb hc1 hr0
        by_cases hlt2 : j < 8
        · have hcl3 : (j : Int) < 8 := by omega
          have hs : sh (R ^^^ byB x) (j + 1) = sb (sh (R ^^^ byB x) j) := rfl
          have ha := and_uw (sh (R ^^^ byB x) j)
          have hd := shr_uw (sh (R ^^^ byB x) j)
          have hp := poly_uw (sh (R ^^^ byB x) j >>> 1)
          cases hb : (sh (R ^^^ byB x) j).getLsbD 0 with
          | true =>
            rw [hb] at ha
            rw [sb_one hb] at hs
            have ha' : bits .and .u32 (uw (sh (R ^^^ byB x) j)) 1 = 1 := ha
            have hs' : Hid (_ = _) := hs
            clear ha hb hs
            go_wp2
            exact ⟨⟨j + 1, by omega, by go_num, by rw [hs'.out], trivial⟩, by simp [intOf]; omega⟩
          | false =>
            rw [hb] at ha
            rw [sb_nil hb] at hs
            have ha' : bits .and .u32 (uw (sh (R ^^^ byB x) j)) 1 = 0 := ha
            have hs' : Hid (_ = _) := hs
            clear ha hb hs
            go_wp2
            exact ⟨⟨j + 1, by omega, by go_num, by rw [hs'.out], trivial⟩, by simp [intOf]; omega⟩
        · obtain rfl : j = 8 := by omega
          have hcl4 : ¬ ((8 : Nat) : Int) < 8 := by omega
          go_wp2
          exact ⟨⟨k + 1, by omega, by go_num, by rw [hst'.out], trivial⟩, by simp [intOf]; omega⟩
    · obtain rfl : k = n := by omega
      have hcl2 : ¬ (k : Int) < (k : Int) := by omega
      have ht : xs.take k = xs := List.take_of_length_le (by rw [HL.out]; omega)
      rw [ht]
      have hN2 := not_uw (reg (~~~ s) xs)
      clear ht hN1
      go_wp2
      go_ret
      exact ⟨rfl, rfl⟩

theorem refSum_any (a : Option Addr) (n c : Nat) (xs : List Int) (w : World) (hR : Rd w a n c xs) :
    Calls Tryz.prog 122 #[.slice a n c] w fun e w' => e = .returned (.int .u32 (uw (more 0#32 xs))) ∧ w' = w := by
  have hM := fun u (h : Rd u a n c xs) => refMore_any 0#32 a n c xs u h
  go_enter Tryz.func122, Tryz.ntmps122
  go_wp2_with (go_at_call 148; refine (hM _ hR).mono ?_; rintro e w' ⟨rfl, rfl⟩)
  go_ret
  exact ⟨rfl, rfl⟩
end Go.Proofs.YtikkieaokfailaaGreatDoor
