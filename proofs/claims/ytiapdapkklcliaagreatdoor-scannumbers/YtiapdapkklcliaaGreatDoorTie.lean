/-
  DERIVED. GIVEN WITH THE SEED: THE PROGRAM's TIES (one call each: nine closed facts by the kernel) AND EACH ROW's TIE, after the 31st guide's Derived/Test/Toyas{Tie, Card}.lean. No idea stands in it: it is a product of the set-up. Laid BY PROGRAM, IN A SANDBOX (cutbox-door.mjs). By AI agents, Wed Nov 11 2026. No macro, syntax, notation, axiom, sorry.
-/
import Derived.Test.YtiapdapkklcliaaGreatDoorRows
import Derived.LaidByTextLater
import Derived.SevenTiedAt
import Derived.LaidSub
import Derived.LaidOnce
namespace Go.Proofs.YtiapdapkklcliaaGreatDoor
open Go
set_option maxRecDepth 100000
theorem seatTie1 : Tryz.prog.laidByTextLater [("pigeonhole/scan.escapes", Rows.laid_pigeonhole_scan_escapes), ("pigeonhole/scan.words", Rows.laid_pigeonhole_scan_words), ("pigeonhole/scan.signs", Rows.laid_pigeonhole_scan_signs)] [.data, .data, .data] true :=
  Program.laidByTextLater_by_one 53 8 257 (by kernel_rfl) (by kernel_rfl) (by kernel_rfl) (by kernel_rfl) (by kernel_rfl) (by kernel_rfl) (fun _ _ => by kernel_rfl)
theorem seatTie2 : Tryz.prog.laidByTextLater [("unicode.White_Space", Rows.laid_unicode_White_Space), ("strings.asciiSpace", Rows.laid_strings_asciiSpace), ("pigeonhole/scan.escapes", Rows.laid_pigeonhole_scan_escapes), ("pigeonhole/scan.words", Rows.laid_pigeonhole_scan_words), ("pigeonhole/scan.signs", Rows.laid_pigeonhole_scan_signs)] [.listed, .data, .data, .data, .data] true :=
  Program.laidByTextLater_by_one 53 8 257 (by kernel_rfl) (by kernel_rfl) (by kernel_rfl) (by kernel_rfl) (by kernel_rfl) (by kernel_rfl) (fun _ _ => by kernel_rfl)
theorem noOwnUnsafe : Tryz.pinned.checked.prog.headLifts.contains "ownunsafe" = false := by kernel_rfl
theorem tie : Tryz.prog.laidByTextLater [("pigeonhole/scan.escapes", Rows.laid_pigeonhole_scan_escapes), ("pigeonhole/scan.words", Rows.laid_pigeonhole_scan_words), ("pigeonhole/scan.signs", Rows.laid_pigeonhole_scan_signs)] [.data, .data, .data] true :=
  Program.laidByTextLater.sub seatTie1 ["pigeonhole/scan.escapes", "pigeonhole/scan.words", "pigeonhole/scan.signs"] (by kernel_rfl) (by kernel_rfl)
theorem scanTells_row_tie : Rows.scanTellsRow.laidByTextAt .later Tryz.pinned [.data, .data, .data] true :=
  OpenClaim.laidByTextAt_later rfl rfl tie noOwnUnsafe
theorem tie2 : Tryz.prog.laidByTextLater [("unicode.White_Space", Rows.laid_unicode_White_Space), ("strings.asciiSpace", Rows.laid_strings_asciiSpace), ("pigeonhole/scan.escapes", Rows.laid_pigeonhole_scan_escapes), ("pigeonhole/scan.words", Rows.laid_pigeonhole_scan_words), ("pigeonhole/scan.signs", Rows.laid_pigeonhole_scan_signs)] [.listed, .data, .data, .data, .data] true :=
  Program.laidByTextLater.sub seatTie2 ["unicode.White_Space", "strings.asciiSpace", "pigeonhole/scan.escapes", "pigeonhole/scan.words", "pigeonhole/scan.signs"] (by kernel_rfl) (by kernel_rfl)
theorem scanNumbers_row_tie : Rows.scanNumbersRow.laidByTextAt .later Tryz.pinned [.listed, .data, .data, .data, .data] true :=
  OpenClaim.laidByTextAt_later rfl rfl tie2 noOwnUnsafe
theorem scanTellsUpto_row_tie : Rows.scanTellsUptoRow.laidByTextAt .later Tryz.pinned [.data, .data, .data] true :=
  OpenClaim.laidByTextAt_later rfl rfl tie noOwnUnsafe
theorem scanNumbersUpto_row_tie : Rows.scanNumbersUptoRow.laidByTextAt .later Tryz.pinned [.listed, .data, .data, .data, .data] true :=
  OpenClaim.laidByTextAt_later rfl rfl tie2 noOwnUnsafe
end Go.Proofs.YtiapdapkklcliaaGreatDoor
