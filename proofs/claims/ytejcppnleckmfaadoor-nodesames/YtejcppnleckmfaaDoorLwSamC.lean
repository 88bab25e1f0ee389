/- The card of NodeSames: whatever two trees it is given, the call returns true (whether they are the same but for their places is told as the reference tells it; they stay as they were). Conditions: the row's own alone. -/
import Derived.Test.YtejcppnleckmfaaDoorFrSam
import Derived.Test.YtejcppnleckmfaaDoorNsR
namespace Go.Proofs.YtejcppnleckmfaaDoor
open Go.RowKit

/-- The card: NodeSames returns true. -/
theorem nodeSames_card_holds : Rows.NodeSamesCardSaid := nodeSames_card (fun d cs0 t0 cs1 t1 W hg in0 y0 x0 in1 y1 x1 => by
  obtain ⟨A, C, hF, hO⟩ := hg
  exact Sames_walk A C d W cs0 t0 cs1 t1 in0 y0 x0 in1 y1 x1 hF hO)

end Go.Proofs.YtejcppnleckmfaaDoor
