/- ScanBack: whatever text it is given, the call returns true and leaves its argument as it was: the card of the given row, tied to the program's text.
   Conditions: the row's own alone (the listed package variables stand as the text lays them). -/
import Derived.Test.YtfejdflbilakoaaDoorBakW
import Derived.Test.YtfejdflbilakoaaDoorFrBack
namespace Go.Proofs.YtfejdflbilakoaaDoor

theorem scanBack_holds : Rows.ScanBackCardSaid := scanBack_card (fun t0 W hg h0 => ScanBack_any t0 W hg h0)

end Go.Proofs.YtfejdflbilakoaaDoor
