/-
  DERIVED. GIVEN WITH THE SEED: THE PROGRAM's TIES (one call each: nine closed facts by the kernel) AND EACH ROW's TIE, after the 31st guide's Derived/Test/Toyas{Tie, Card}.lean. No idea stands in it: it is a product of the set-up. Laid BY PROGRAM, IN A SANDBOX (cutbox-door.mjs). By AI agents, Wed Nov 11 2026. No macro, syntax, notation, axiom, sorry.
-/
import Derived.Test.YtfejdflbilakoaaDoorRows
import Derived.LaidByTextLater
import Derived.SevenTiedAt
import Derived.LaidSub
import Derived.LaidOnce
namespace Go.Proofs.YtfejdflbilakoaaDoor
open Go
set_option maxRecDepth 100000
theorem seatTie1 : Tryd.prog.laidByTextLater [("pigeonhole/scan.escapes", Rows.laid_pigeonhole_scan_escapes), ("pigeonhole/scan.words", Rows.laid_pigeonhole_scan_words), ("pigeonhole/scan.signs", Rows.laid_pigeonhole_scan_signs)] [.data, .data, .data] true :=
  Program.laidByTextLater_by_one 29 8 30 (by kernel_rfl) (by kernel_rfl) (by kernel_rfl) (by kernel_rfl) (by kernel_rfl) (by kernel_rfl) (fun _ _ => by kernel_rfl)
theorem noOwnUnsafe : Tryd.pinned.checked.prog.headLifts.contains "ownunsafe" = false := by kernel_rfl
theorem tie : Tryd.prog.laidByTextLater [("pigeonhole/scan.escapes", Rows.laid_pigeonhole_scan_escapes), ("pigeonhole/scan.words", Rows.laid_pigeonhole_scan_words), ("pigeonhole/scan.signs", Rows.laid_pigeonhole_scan_signs)] [.data, .data, .data] true :=
  Program.laidByTextLater.sub seatTie1 ["pigeonhole/scan.escapes", "pigeonhole/scan.words", "pigeonhole/scan.signs"] (by kernel_rfl) (by kernel_rfl)
theorem scanBack_row_tie : Rows.scanBackRow.laidByTextAt .later Tryd.pinned [.data, .data, .data] true :=
  OpenClaim.laidByTextAt_later rfl rfl tie noOwnUnsafe
theorem scanCut_row_tie : Rows.scanCutRow.laidByTextAt .later Tryd.pinned [.data, .data, .data] true :=
  OpenClaim.laidByTextAt_later rfl rfl tie noOwnUnsafe
theorem scanBackUpto_row_tie : Rows.scanBackUptoRow.laidByTextAt .later Tryd.pinned [.data, .data, .data] true :=
  OpenClaim.laidByTextAt_later rfl rfl tie noOwnUnsafe
theorem scanCutUpto_row_tie : Rows.scanCutUptoRow.laidByTextAt .later Tryd.pinned [.data, .data, .data] true :=
  OpenClaim.laidByTextAt_later rfl rfl tie noOwnUnsafe
end Go.Proofs.YtfejdflbilakoaaDoor
