/-
  DERIVED. GIVEN WITH THE SEED: THE PROGRAM's TIES (one call each: nine closed facts by the kernel) AND EACH ROW's TIE, after the 31st guide's Derived/Test/Toyas{Tie, Card}.lean. No idea stands in it: it is a product of the set-up. Laid BY PROGRAM, IN A SANDBOX (cutbox-door.mjs). By AI agents, Wed Nov 11 2026. No macro, syntax, notation, axiom, sorry.
-/
import Derived.Test.YtpgjcedonimgnaaDoorRows
import Derived.LaidByTextLater
import Derived.SevenTiedAt
import Derived.LaidSub
import Derived.LaidOnce
namespace Go.Proofs.YtpgjcedonimgnaaDoor
open Go
set_option maxRecDepth 100000
theorem seatTie1 : Tryd.prog.laidByTextLater [("pigeonhole/node.operators", Rows.laid_pigeonhole_node_operators), ("pigeonhole/node.forms", Rows.laid_pigeonhole_node_forms), ("pigeonhole/lint.builtIn", Rows.laid_pigeonhole_lint_builtIn)] [.data, .widerDeep, .data] true :=
  Program.laidByTextLater_by_one 123 8 181 (by kernel_rfl) (by kernel_rfl) (by kernel_rfl) (by kernel_rfl) (by kernel_rfl) (by kernel_rfl) (fun _ _ => by kernel_rfl)
theorem noOwnUnsafe : Tryd.pinned.checked.prog.headLifts.contains "ownunsafe" = false := by kernel_rfl
theorem tie : Tryd.prog.laidByTextLater [("pigeonhole/node.operators", Rows.laid_pigeonhole_node_operators), ("pigeonhole/node.forms", Rows.laid_pigeonhole_node_forms), ("pigeonhole/lint.builtIn", Rows.laid_pigeonhole_lint_builtIn)] [.data, .widerDeep, .data] true :=
  Program.laidByTextLater.sub seatTie1 ["pigeonhole/node.operators", "pigeonhole/node.forms", "pigeonhole/lint.builtIn"] (by kernel_rfl) (by kernel_rfl)
theorem lintKinds_row_tie : Rows.lintKindsRow.laidByTextAt .later Tryd.pinned [.data, .widerDeep, .data] true :=
  OpenClaim.laidByTextAt_later rfl rfl tie noOwnUnsafe
theorem lintNumbers_row_tie : Rows.lintNumbersRow.laidByTextAt .later Tryd.pinned [.data, .widerDeep, .data] true :=
  OpenClaim.laidByTextAt_later rfl rfl tie noOwnUnsafe
theorem lintNames_row_tie : Rows.lintNamesRow.laidByTextAt .later Tryd.pinned [.data, .widerDeep, .data] true :=
  OpenClaim.laidByTextAt_later rfl rfl tie noOwnUnsafe
theorem lintParts_row_tie : Rows.lintPartsRow.laidByTextAt .later Tryd.pinned [.data, .widerDeep, .data] true :=
  OpenClaim.laidByTextAt_later rfl rfl tie noOwnUnsafe
theorem lintKindsUpto_row_tie : Rows.lintKindsUptoRow.laidByTextAt .later Tryd.pinned [.data, .widerDeep, .data] true :=
  OpenClaim.laidByTextAt_later rfl rfl tie noOwnUnsafe
theorem lintNumbersUpto_row_tie : Rows.lintNumbersUptoRow.laidByTextAt .later Tryd.pinned [.data, .widerDeep, .data] true :=
  OpenClaim.laidByTextAt_later rfl rfl tie noOwnUnsafe
theorem lintNamesUpto_row_tie : Rows.lintNamesUptoRow.laidByTextAt .later Tryd.pinned [.data, .widerDeep, .data] true :=
  OpenClaim.laidByTextAt_later rfl rfl tie noOwnUnsafe
theorem lintPartsUpto_row_tie : Rows.lintPartsUptoRow.laidByTextAt .later Tryd.pinned [.data, .widerDeep, .data] true :=
  OpenClaim.laidByTextAt_later rfl rfl tie noOwnUnsafe
end Go.Proofs.YtpgjcedonimgnaaDoor
