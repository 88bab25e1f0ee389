/- The card of NodeRights: whatever tree it is given, the call returns true (Right, Pattern, Guard and Deep answer as the reference answers; the tree stays as it was). Conditions: the row's own alone. -/
import Derived.Test.YtehfoblfmehbdaaDoorFrRgt
import Derived.Test.YtehfoblfmehbdaaDoorNuF
namespace Go.Proofs.YtehfoblfmehbdaaDoor
open Go.RowKit

/-- The card: NodeRights returns true. -/
theorem nodeRights_card_holds : Rows.NodeRightsCardSaid := nodeRights_card (fun d cs0 t0 W hg in0 y0 x0 => by
  obtain ⟨A, C, hF, hO⟩ := hg
  exact Rights_walk A C d W cs0 t0 in0 y0 x0 hF hO)

end Go.Proofs.YtehfoblfmehbdaaDoor
