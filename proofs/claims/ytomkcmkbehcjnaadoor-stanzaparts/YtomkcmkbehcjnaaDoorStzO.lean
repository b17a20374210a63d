/- wakes: the document's runs that each law asks for first. -/
import Derived.Test.YtomkcmkbehcjnaaDoorStzN
namespace Go.Proofs.YtomkcmkbehcjnaaDoor
open Go.RowKit

theorem chk_w : chk 5 ⟨#[]⟩ ⟨#[]⟩ ⟨#[]⟩ [] 0 0 = 0 := by decide +kernel
theorem form_w : wform 5 7 ⟨#[]⟩ ⟨#[]⟩ ⟨#[]⟩ [] 0 0 = [5, 7, 0] := by decide +kernel
theorem str_w : strOfNums [5, 7, 0] = ⟨#[5, 7, 0]⟩ := by decide +kernel
theorem read_w : rdSt [15, 0, 8, 1, 0] = (15, 0, ⟨⟨#[]⟩, ⟨#[]⟩, ⟨#[]⟩, [⟨#[]⟩], 0, 0⟩, 0) := by kernel_rfl
theorem bd_w : Bd [15, 0, 8, 1, 0] := by intro x hx; simp at hx; omega
theorem bd_w3 : Bd [5, 7, 0] := by intro x hx; simp at hx; omega

theorem rd_w (w : World) : Rd (w.alloc (.cells #[.int .u8 15, .int .u8 0, .int .u8 8, .int .u8 1, .int .u8 0] 5)) (some ⟨w.heap.size, 0, none⟩) 5 5 [15, 0, 8, 1, 0] := by
  refine ⟨rfl, Nat.le_refl _, by unfold maxLen; omega, (fun h => by cases h), bd_w, fun ad had j hj => ?_⟩
  cases had
  rw [add_flat]
  match j, hj with
  | 0, _ => simp
  | 1, _ => simp
  | 2, _ => simp
  | 3, _ => simp
  | 4, _ => simp

theorem write_w (w : World) (hL : Lays w) : Calls Tryd.prog 9 #[.agg #[.int .i64 5, .int .u64 7, .string ⟨#[]⟩, .string ⟨#[]⟩, .string ⟨#[]⟩, .slice none 0 0, .int .i64 0, .float .f64 0]] w fun e w' => ∃ a1 c1, e = .returned (.tuple #[.slice a1 3 c1, .int .i64 0]) ∧ Rd w' a1 3 c1 [5, 7, 0] ∧ Below w.heap.size w w' := by
  refine (write_ok 5 7 ⟨#[]⟩ ⟨#[]⟩ ⟨#[]⟩ none 0 0 0 0 [] w hL (srd_nil w) (by omega) (by omega) (by omega) (by omega) chk_w).mono ?_
  rw [form_w]
  rintro e w' ⟨v, rfl, ho, hb⟩
  obtain ⟨a1, c1, rfl, hr⟩ := Rd.ofOwn ho bd_w3
  exact ⟨a1, c1, rfl, hr, hb⟩

set_option maxHeartbeats 1600000 in
theorem wakes_any (w : World) (hL : Lays w) : Calls Tryd.prog 14 #[] w fun e w' => e = .returned (.bool true) ∧ Below w.heap.size w w' := by
  have hsf := run_store_float
  go_enter Tryd.func14, Tryd.ntmps14
  go_wp2_with (first
    | (go_at_call 9; refine (write_w _ hL).mono ?_; rintro e w1 ⟨a1, c1, rfl, hr1, hb1⟩)
    | (go_at_call 16; have hb2 : Below w1.heap.size w1 (w1.alloc (.cells #[.int .u8 15, .int .u8 0, .int .u8 8, .int .u8 1, .int .u8 0] 5)) := (Below.refl _ _).alloc (Nat.le_refl _) _; have cR := read_any _ 5 5 _ _ (rd_w w1) (by omega) ((hL.carry hb1).carry hb2); rw [read_w] at cR; refine cR.mono ?_; rintro e w3 ⟨la, ln, lc, rfl, hlo, hb3⟩; have hl1 : 1 = ln := hlo.len; subst hl1; have hb3' := hb2.trans (hb3.mono hb2.size); have hb4 : Below w1.heap.size w1 (w3.alloc (.cells #[.int .i64 15, .int .u64 0, .string ⟨#[]⟩, .string ⟨#[]⟩, .string ⟨#[]⟩, .slice la 1 lc, .int .i64 0, .float .f64 0] 26)) := hb3'.alloc hb3'.size _; have hcv := (hr1.carry (Nat.le_refl _) hb4).string; rw [str_w] at hcv)
    | (go_at_call 12; refine (client_any _ _).mono ?_; rintro e w5 ⟨rfl, rfl⟩))
  go_ret
  exact ⟨rfl, hb1.trans (hb4.mono hb1.size)⟩

end Go.Proofs.YtomkcmkbehcjnaaDoor
