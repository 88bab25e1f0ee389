/- The card of ScanTells: of whatever bytes, the call returns true (the program's tokens, or its first fault, are the document's, and lie apart) and leaves its argument as it was. Conditions: the row's own alone. -/
import Derived.Test.YtiapdapkklcliaaGreatDoorFrTel
import Derived.Test.YtiapdapkklcliaaGreatDoorLwTel
namespace Go.Proofs.YtiapdapkklcliaaGreatDoor
open Go.RowKit

/-- The card: ScanTells returns true, of whatever bytes. -/
theorem scanTells_card_holds : Rows.ScanTellsCardSaid := scanTells_card (fun t0 W hg _ => Tells_walk t0 W hg)

end Go.Proofs.YtiapdapkklcliaaGreatDoor
