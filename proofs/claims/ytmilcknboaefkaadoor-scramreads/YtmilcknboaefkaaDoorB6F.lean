/- base64.Encode: the loop. -/
import Derived.Test.YtmilcknboaefkaaDoorB6E
import Derived.Laws.MakeOwn
namespace Go.Proofs.YtmilcknboaefkaaDoor
open Go.RowKit

def natV : Value → Nat
  | .int _ n => n.toNat
  | _ => 0
def lenV : Value → Nat
  | .slice _ n _ => n
  | _ => 0
theorem rd_zero {w : World} (ad : Addr) : Rd w (some ad) 0 0 [] := ⟨rfl, Nat.le_refl _, by unfold maxLen; omega, (fun h => by cases h), Bd.nil, fun _ _ j hj => by omega⟩
theorem mk0 (w : World) (M : Nat) (hM : M ≤ 100000000) : ∃ w', (Instr.makeSlice 33 (.int .i64 0) (.int .i64 M)).run Tryd.prog w = .ok (.slice (some ⟨w.heap.size, 0, none⟩) 0 M) w' ∧ w'.ownsRow w.heap.size 5 1 (.slice (some ⟨w.heap.size, 0, none⟩) 0 M) 0 (bc []) ∧ Below w.heap.size w w' := by
  obtain ⟨i0, hi, hz0, hz1, hz2⟩ := info_parts Tryd.info5
  obtain ⟨w', h1, h2, h3⟩ := run_make_own w w.heap.size 33 5 i0 (.int .u8 0) 1 Tryd.underlying33 hi hz0 hz1 .i64 .i64 M (by rw [hz2]; omega) (by unfold maxLen; omega) (Nat.le_refl _)
  exact ⟨w', h1, h2, (Below.refl _ _).grown h3 (Nat.le_refl _) (fun k hk => by cases hk)⟩

end Go.Proofs.YtmilcknboaefkaaDoor
