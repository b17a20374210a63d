/-
  DERIVED. GIVEN WITH THE SEED: THE PROGRAM's TIES (one call each: nine closed facts by the kernel) AND EACH ROW's TIE, after the 31st guide's Derived/Test/Toyas{Tie, Card}.lean. No idea stands in it: it is a product of the set-up. Laid BY PROGRAM, IN A SANDBOX (cutbox-door.mjs). By AI agents, Wed Nov 11 2026. No macro, syntax, notation, axiom, sorry.
-/
import Derived.Test.YtgijofcnknehdaaDoorRows
import Derived.LaidByTextLater
import Derived.SevenTiedAt
import Derived.LaidSub
import Derived.LaidOnce
namespace Go.Proofs.YtgijofcnknehdaaDoor
open Go
set_option maxRecDepth 100000
theorem seatTie1 : Tryd.prog.laidByTextLater [("roost/subs.stateNames", Rows.laid_roost_subs_stateNames), ("roost/subs.subNames", Rows.laid_roost_subs_subNames)] [.data, .data] true :=
  Program.laidByTextLater_by_one 25 8 10 (by kernel_rfl) (by kernel_rfl) (by kernel_rfl) (by kernel_rfl) (by kernel_rfl) (by kernel_rfl) (fun _ _ => by kernel_rfl)
theorem noOwnUnsafe : Tryd.pinned.checked.prog.headLifts.contains "ownunsafe" = false := by kernel_rfl
theorem tie : Tryd.prog.laidByTextLater [("roost/subs.stateNames", Rows.laid_roost_subs_stateNames), ("roost/subs.subNames", Rows.laid_roost_subs_subNames)] [.data, .data] true :=
  Program.laidByTextLater.sub seatTie1 ["roost/subs.stateNames", "roost/subs.subNames"] (by kernel_rfl) (by kernel_rfl)
theorem subsTables_row_tie : Rows.subsTablesRow.laidByTextAt .later Tryd.pinned [.data, .data] true :=
  OpenClaim.laidByTextAt_later rfl rfl tie noOwnUnsafe
theorem subsRight_row_tie : Rows.subsRightRow.laidByTextAt .later Tryd.pinned [.data, .data] true :=
  OpenClaim.laidByTextAt_later rfl rfl tie noOwnUnsafe
theorem tie2 : Tryd.prog.laidByTextLater [("roost/subs.subNames", Rows.laid_roost_subs_subNames)] [.data] true :=
  Program.laidByTextLater.sub seatTie1 ["roost/subs.subNames"] (by kernel_rfl) (by kernel_rfl)
theorem subsAgree_row_tie : Rows.subsAgreeRow.laidByTextAt .later Tryd.pinned [.data] true :=
  OpenClaim.laidByTextAt_later rfl rfl tie2 noOwnUnsafe
theorem subsTablesUpto_row_tie : Rows.subsTablesUptoRow.laidByTextAt .later Tryd.pinned [.data, .data] true :=
  OpenClaim.laidByTextAt_later rfl rfl tie noOwnUnsafe
theorem subsAgreeUpto_row_tie : Rows.subsAgreeUptoRow.laidByTextAt .later Tryd.pinned [.data] true :=
  OpenClaim.laidByTextAt_later rfl rfl tie2 noOwnUnsafe
theorem subsRightUpto_row_tie : Rows.subsRightUptoRow.laidByTextAt .later Tryd.pinned [.data, .data] true :=
  OpenClaim.laidByTextAt_later rfl rfl tie noOwnUnsafe
end Go.Proofs.YtgijofcnknehdaaDoor
