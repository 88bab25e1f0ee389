/- ScanCut: whatever two texts it is given, the call returns true and leaves its arguments as they were: the card of the given row, tied to the program's text.
   Conditions: the row's own alone (the listed package variables stand as the text lays them). -/
import Derived.Test.YtfejdflbilakoaaDoorCutX
import Derived.Test.YtfejdflbilakoaaDoorFrCut
namespace Go.Proofs.YtfejdflbilakoaaDoor

theorem scanCut_holds : Rows.ScanCutCardSaid := scanCut_card (fun t0 t1 W hg h0 h1 => ScanCut_any t0 t1 W hg h0 h1)

end Go.Proofs.YtfejdflbilakoaaDoor
