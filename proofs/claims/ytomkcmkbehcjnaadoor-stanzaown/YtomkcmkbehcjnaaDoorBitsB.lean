/- math.Float64frombits; the document's Bits. -/
import Derived.Test.YtomkcmkbehcjnaaDoorOrderA
namespace Go.Proofs.YtomkcmkbehcjnaaDoor
open Go.RowKit

theorem run_from (n : Int) (w : World) : (callFunc 65 #[.int .u64 n]).run Tryd.prog w = .ok (.value (.float .f64 n.toNat)) w := by
  rw [run_callFunc_extern Tryd.func65 (by kernel_rfl) (by kernel_rfl) (by kernel_rfl) (e := Extern.MathFloatBits.float64frombits) (by kernel_rfl)]
  rfl

def bitsv (x : Nat) : Nat := if Fl.nan x then 9221120237041090560 else x

set_option maxHeartbeats 400000 in
theorem refBits_any (x : Nat) (w : World) : Calls Tryd.prog 56 #[.float .f64 x] w fun e w' => e = .returned (.int .u64 (bitsv x)) ∧ w' = w := by
  have hb := run_bits
  by_cases hn : Fl.nan x = true
  · have HE : Hid (bitsv x = 9221120237041090560) := by unfold bitsv; rw [hn]; rfl
    have h1 : (FloatKind.f64.format.order x x != some .eq) = true := by rw [nan_neq]; exact hn
    clear hn
    go_enter Tryd.func56, Tryd.ntmps56
    go_wp2
    go_ret
    exact ⟨ret_int (by rw [HE.out]; rfl), rfl⟩
  · have hn' : Fl.nan x = false := by simpa using hn
    have HE : Hid (bitsv x = x) := by unfold bitsv; rw [hn']; rfl
    have h1 : (FloatKind.f64.format.order x x != some .eq) = false := by rw [nan_neq]; exact hn'
    clear hn hn'
    go_enter Tryd.func56, Tryd.ntmps56
    go_wp2
    go_ret
    exact ⟨ret_int (by rw [HE.out]), rfl⟩

end Go.Proofs.YtomkcmkbehcjnaaDoor
