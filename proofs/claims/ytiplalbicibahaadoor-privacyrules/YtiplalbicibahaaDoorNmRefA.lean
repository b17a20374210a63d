/- The document's fold and letter. -/
import Derived.Test.YtiplalbicibahaaDoorNmSmall
namespace Go.Proofs.YtiplalbicibahaaDoor.Nm
open Go.RowKit

set_option maxHeartbeats 4000000 in
theorem refFold_any (r : Int) (w : World) (h0 : 0 ≤ r) (h1 : r ≤ 1114111) : Calls Tryd.prog 40 #[.int .i32 r] w fun e w' => e = .returned (.int .i32 (foldR r)) ∧ w' = w := by
  go_enter Tryd.func40, Tryd.ntmps40
  go_wp2
  all_goals go_ret
  all_goals (refine ⟨ret_int ?_, rfl⟩; unfold foldR; split <;> first | omega | (simp; omega))

set_option maxHeartbeats 8000000 in
theorem letter_any (r : Int) (w : World) : Calls Tryd.prog 39 #[.int .i32 r] w fun e w' => e = .returned (.bool (letterB r)) ∧ w' = w := by
  go_enter Tryd.func39, Tryd.ntmps39
  go_wp2
  all_goals go_ret
  all_goals (refine ⟨ret_bool ?_, rfl⟩; unfold letterB)
  all_goals (rw [Bool.eq_iff_iff]; simp only [Bool.or_eq_true, decide_eq_true_eq, beq_iff_eq, Bool.false_eq_true, true_iff, false_iff]; first | omega | decide)
end Go.Proofs.YtiplalbicibahaaDoor.Nm
