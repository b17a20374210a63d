/- base64: wakes. -/
import Derived.Test.YtmmjeikmifhekaaB6D
import Derived.Lib.SlBytesConst
namespace Go.Proofs.Ytmmjeikmifhekaa
open Go.RowKit

theorem rd_foo (w : World) (m : Nat × Nat) : Rd (w.alloc (.cells #[.int .u8 102, .int .u8 111, .int .u8 111] 5 m)) (some ⟨w.heap.size, 0, none⟩) 3 3 [102, 111, 111] := by
  refine ⟨rfl, Nat.le_refl _, by unfold maxLen; omega, (fun h => by cases h), (fun q hq => by simp at hq; omega), fun ad had j hj => ?_⟩
  cases had
  rw [add_flat]
  match j, hj with
  | 0, _ => unfold World.cell?; rw [World.alloc_heap_new]; rfl
  | 1, _ => unfold World.cell?; rw [World.alloc_heap_new]; rfl
  | 2, _ => unfold World.cell?; rw [World.alloc_heap_new]; rfl
theorem str_in : strOfNums [90, 109, 56, 61] = ⟨#[90, 109, 56, 61]⟩ := by decide
theorem str_fo : strOfNums [102, 111] = ⟨#[102, 111]⟩ := by decide
theorem str_out : strOfNums (enc [102, 111, 111]) = ⟨#[90, 109, 57, 118]⟩ := by decide +kernel
theorem dec_in : dec [90, 109, 56, 61] = some [102, 111] := by decide +kernel

set_option maxRecDepth 100000 in
set_option maxHeartbeats 1600000 in
theorem wakes_any (w : World) : Calls Try.prog 13 #[] w fun e w' => e = .returned (.bool true) ∧ Below w.heap.size w w' := by
  have kc := fun (w : World) (C : Array Value) (n c : Nat) => Lib.run_convert_bytes_const (P := Try.prog) w 22 5 C n c Try.underlying22 Try.underlying5
  have hD := decodeR [90, 109, 56, 61] [102, 111] 0 w (by intro x hx; simp at hx; omega) (by simp) (by rw [dec_in]; rfl) (by rw [dec_in]; rfl)
  rw [str_in] at hD
  have hEn := fun (u : World) => encode_any (some ⟨u.heap.size, 0, none⟩) 3 3 [102, 111, 111] (u.alloc (.cells #[.int .u8 102, .int .u8 111, .int .u8 111] 5 (3, 4))) (rd_foo u _) (by omega)
  rw [str_out] at hEn
  go_enter Try.func13, Try.ntmps13
  go_wp2_with (first
    | (go_at_call 8; refine hD.mono ?_; rintro e w1 ⟨a1, n1, c1, rfl, hr1, hN1, hb1⟩; have hcv := hr1.string; rw [str_fo] at hcv; clear hr1 hN1)
    | (go_at_call 10; refine (hEn w1).mono ?_; rintro e w2 ⟨rfl, hb2⟩))
  go_ret
  exact ⟨rfl, hb1.trans ((((Below.refl _ _).alloc (Nat.le_refl _) _).trans (hb2.mono (by simp))).mono hb1.size)⟩
end Go.Proofs.Ytmmjeikmifhekaa
