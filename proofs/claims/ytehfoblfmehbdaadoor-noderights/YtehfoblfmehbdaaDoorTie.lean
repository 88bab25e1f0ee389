/-
  DERIVED. GIVEN WITH THE SEED: THE PROGRAM's TIES (one call each: nine closed facts by the kernel) AND EACH ROW's TIE, after the 31st guide's Derived/Test/Toyas{Tie, Card}.lean. No idea stands in it: it is a product of the set-up. Laid BY PROGRAM, IN A SANDBOX (cutbox-door.mjs). By AI agents, Wed Nov 11 2026. No macro, syntax, notation, axiom, sorry.
-/
import Derived.Test.YtehfoblfmehbdaaDoorRows
import Derived.LaidByTextLater
import Derived.SevenTiedAt
import Derived.LaidSub
import Derived.LaidOnce
namespace Go.Proofs.YtehfoblfmehbdaaDoor
open Go
set_option maxRecDepth 100000
theorem seatTie1 : Tryd.prog.laidByTextLater [("pigeonhole/node.operators", Rows.laid_pigeonhole_node_operators), ("pigeonhole/node.forms", Rows.laid_pigeonhole_node_forms)] [.data, .widerDeep] true :=
  Program.laidByTextLater_by_one 107 8 181 (by kernel_rfl) (by kernel_rfl) (by kernel_rfl) (by kernel_rfl) (by kernel_rfl) (by kernel_rfl) (fun _ _ => by kernel_rfl)
theorem noOwnUnsafe : Tryd.pinned.checked.prog.headLifts.contains "ownunsafe" = false := by kernel_rfl
theorem tie : Tryd.prog.laidByTextLater [("pigeonhole/node.operators", Rows.laid_pigeonhole_node_operators), ("pigeonhole/node.forms", Rows.laid_pigeonhole_node_forms)] [.data, .widerDeep] true :=
  Program.laidByTextLater.sub seatTie1 ["pigeonhole/node.operators", "pigeonhole/node.forms"] (by kernel_rfl) (by kernel_rfl)
theorem nodeRights_row_tie : Rows.nodeRightsRow.laidByTextAt .later Tryd.pinned [.data, .widerDeep] true :=
  OpenClaim.laidByTextAt_later rfl rfl tie noOwnUnsafe
theorem nodeRightsUpto_row_tie : Rows.nodeRightsUptoRow.laidByTextAt .later Tryd.pinned [.data, .widerDeep] true :=
  OpenClaim.laidByTextAt_later rfl rfl tie noOwnUnsafe
end Go.Proofs.YtehfoblfmehbdaaDoor
